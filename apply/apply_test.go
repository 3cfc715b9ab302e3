package apply

import (
	"math"
	"slices"
	"strings"
	"testing"

	"pelorus/api"
	"pelorus/convn"
	"pelorus/f32n"
	"pelorus/f64n"
	"pelorus/i32n"
	"pelorus/i64n"
)

// The values' types, in short.
const (
	ti = api.TypeI32
	tl = api.TypeI64
	tf = api.TypeF32
	td = api.TypeF64
)

// Floats by their bits.
const (
	minus32 = 1 << 31
	one32   = 0x3f800000
	two32   = 0x40000000
	three32 = 0x40400000
	top32   = 0x7f7fffff
	inf32   = 0x7f800000
	nan32   = 0x7fc00000
	minus64 = -1 << 63
	one64   = 0x3ff0000000000000
	two64   = 0x4000000000000000
	three64 = 0x4008000000000000
	top64   = 0x7fefffffffffffff
	inf64   = 0x7ff0000000000000
	nan64   = 0x7ff8000000000000
)

// opNames: the specification's names of the operations, in the order of their numbers from 69 on.
const opNames = `
i32.eqz i32.eq i32.ne i32.lt_s i32.lt_u i32.gt_s i32.gt_u i32.le_s i32.le_u i32.ge_s i32.ge_u
i64.eqz i64.eq i64.ne i64.lt_s i64.lt_u i64.gt_s i64.gt_u i64.le_s i64.le_u i64.ge_s i64.ge_u
f32.eq f32.ne f32.lt f32.gt f32.le f32.ge
f64.eq f64.ne f64.lt f64.gt f64.le f64.ge
i32.clz i32.ctz i32.popcnt i32.add i32.sub i32.mul i32.div_s i32.div_u i32.rem_s i32.rem_u
i32.and i32.or i32.xor i32.shl i32.shr_s i32.shr_u i32.rotl i32.rotr
i64.clz i64.ctz i64.popcnt i64.add i64.sub i64.mul i64.div_s i64.div_u i64.rem_s i64.rem_u
i64.and i64.or i64.xor i64.shl i64.shr_s i64.shr_u i64.rotl i64.rotr
f32.abs f32.neg f32.ceil f32.floor f32.trunc f32.nearest f32.sqrt f32.add f32.sub f32.mul f32.div f32.min f32.max f32.copysign
f64.abs f64.neg f64.ceil f64.floor f64.trunc f64.nearest f64.sqrt f64.add f64.sub f64.mul f64.div f64.min f64.max f64.copysign
i32.wrap_i64 i32.trunc_f32_s i32.trunc_f32_u i32.trunc_f64_s i32.trunc_f64_u
i64.extend_i32_s i64.extend_i32_u i64.trunc_f32_s i64.trunc_f32_u i64.trunc_f64_s i64.trunc_f64_u
f32.convert_i32_s f32.convert_i32_u f32.convert_i64_s f32.convert_i64_u f32.demote_f64
f64.convert_i32_s f64.convert_i32_u f64.convert_i64_s f64.convert_i64_u f64.promote_f32
i32.reinterpret_f32 i64.reinterpret_f64 f32.reinterpret_i32 f64.reinterpret_i64`

// typeNamed gives a type by the specification's name.
func typeNamed(name string) int {
	switch name {
	case "i32":
		return ti
	case "i64":
		return tl
	case "f32":
		return tf
	}
	return td
}

// typeByName reads an operation's type from its name: the name begins with the type that it works on (a
// comparison gives a number of 32 bits) or, of a conversion, with what it gives, and tells what it takes behind.
func typeByName(name string) (params []int, result int) {
	begin, act, _ := strings.Cut(name, ".")
	own := typeNamed(begin)
	parts := strings.Split(act, "_")
	if len(parts) > 1 && len(parts[1]) == 3 {
		return []int{typeNamed(parts[1])}, own
	}
	switch parts[0] {
	case "eqz":
		return []int{own}, ti
	case "eq", "ne", "lt", "gt", "le", "ge":
		return []int{own, own}, ti
	case "clz", "ctz", "popcnt", "abs", "neg", "ceil", "floor", "trunc", "nearest", "sqrt":
		return []int{own}, own
	}
	return []int{own, own}, own
}

// eachOp goes through the operations: number, name, parameters, result.
func eachOp(t *testing.T, visit func(op int, name string, params []int, result int)) {
	t.Helper()
	names := strings.Fields(opNames)
	if len(names) != 191-69+1 {
		t.Fatalf("%d names", len(names))
	}
	for k, name := range names {
		params, result := typeByName(name)
		visit(69+k, name, params, result)
	}
}

// wrongOps gives numbers that name no operation of numbers.
func wrongOps() []int {
	wrong := []int{math.MinInt, math.MaxInt, math.MinInt + 100, math.MaxInt - 100}
	for op := -300; op < 700; op++ {
		if op < 69 || op > 191 {
			wrong = append(wrong, op)
		}
	}
	for op := 69; op <= 191; op++ {
		wrong = append(wrong, op+1<<32, op-1<<32, op+math.MinInt, -op)
	}
	return wrong
}

func TestTypeOfEachOperation(t *testing.T) {
	eachOp(t, func(op int, name string, params []int, result int) {
		is, e := Type(op)
		if e != api.OK || !slices.Equal(is.Params, params) || !slices.Equal(is.Results, []int{result}) {
			t.Errorf("P7.1: Type(%d) (%s): %v, %d; want %v, %d", op, name, is, e, params, result)
		}
	})
}

// TestTypesByGroups writes the types out, beside what the names tell.
func TestTypesByGroups(t *testing.T) {
	for _, c := range []struct{ first, last, param, count, result int }{
		{69, 69, ti, 1, ti}, {70, 79, ti, 2, ti}, {80, 80, tl, 1, ti}, {81, 90, tl, 2, ti}, {91, 96, tf, 2, ti},
		{97, 102, td, 2, ti}, {103, 105, ti, 1, ti}, {106, 120, ti, 2, ti}, {121, 123, tl, 1, tl}, {124, 138, tl, 2, tl},
		{139, 145, tf, 1, tf}, {146, 152, tf, 2, tf}, {153, 159, td, 1, td}, {160, 166, td, 2, td},
		{167, 167, tl, 1, ti}, {168, 169, tf, 1, ti}, {170, 171, td, 1, ti}, {172, 173, ti, 1, tl}, {174, 175, tf, 1, tl},
		{176, 177, td, 1, tl}, {178, 179, ti, 1, tf}, {180, 181, tl, 1, tf}, {182, 182, td, 1, tf}, {183, 184, ti, 1, td},
		{185, 186, tl, 1, td}, {187, 187, tf, 1, td}, {188, 188, tf, 1, ti}, {189, 189, td, 1, tl}, {190, 190, ti, 1, tf},
		{191, 191, tl, 1, td},
	} {
		for op := c.first; op <= c.last; op++ {
			is, e := Type(op)
			want := slices.Repeat([]int{c.param}, c.count)
			if e != api.OK || !slices.Equal(is.Params, want) || !slices.Equal(is.Results, []int{c.result}) {
				t.Errorf("P7.1: Type(%d): %v, %d; want %v, %d", op, is, e, want, c.result)
			}
		}
	}
}

func TestTypeOfNoOperation(t *testing.T) {
	for _, op := range wrongOps() {
		is, e := Type(op)
		if e != api.ErrApplyForm || len(is.Params) != 0 || len(is.Results) != 0 {
			t.Errorf("P7.1: Type(%d): %v, %d; want nothing, %d", op, is, e, api.ErrApplyForm)
		}
	}
}

// spoil writes over a list and its spare room.
func spoil(list []int) {
	whole := list[:cap(list)]
	for k := range whole {
		whole[k] = -7
	}
}

func TestTypesShareNoMemory(t *testing.T) {
	eachOp(t, func(op int, name string, params []int, result int) {
		spoiled, _ := Type(op)
		spoil(spoiled.Params)
		if !slices.Equal(spoiled.Results, []int{result}) {
			t.Errorf("R4: Type(%d): parameters and results share memory", op)
		}
		earlier, _ := Type(op)
		spoil(spoiled.Results)
		later, _ := Type(op)
		for _, is := range []api.FuncType{earlier, later} {
			if !slices.Equal(is.Params, params) || !slices.Equal(is.Results, []int{result}) {
				t.Errorf("R4: Type(%d): %v once another answer is written over", op, is)
			}
		}
		spoil(earlier.Results)
		if !slices.Equal(earlier.Params, params) || !slices.Equal(later.Params, params) || !slices.Equal(later.Results, []int{result}) {
			t.Errorf("R4: Type(%d): lists share memory", op)
		}
	})
}

// values gives values of one type with these bits.
func values(kind int, bits ...int) []api.Val {
	var vs []api.Val
	for _, b := range bits {
		vs = append(vs, api.Val{Type: kind, Bits: b})
	}
	return vs
}

// check asks for a value, a trap and an error, and that the values are left as they were.
func check(t *testing.T, op int, vs []api.Val, want api.Val, trap int, code api.Errno) {
	t.Helper()
	// Spare room behind the values, which the call may not touch.
	spare := api.Val{Type: -3, Bits: -3}
	room := append(slices.Clone(vs), spare)
	got, ended, e := Of(op, room[:len(vs)]...)
	if got != want || ended != trap || e != code {
		t.Errorf("P7.2: Of(%d, %v): %v, %d, %d; want %v, %d, %d", op, vs, got, ended, e, want, trap, code)
	}
	if !slices.Equal(room, append(slices.Clone(vs), spare)) {
		t.Errorf("R4: Of(%d, %v) changed its values: %v", op, vs, room)
	}
}

// known: an operation, its parameters' type and their bits, its result's type and bits.
var known = []struct {
	op, param int
	bits      []int
	result    int
	want      int
}{
	{69, ti, []int{0}, ti, 1}, {69, ti, []int{0xffffffff}, ti, 0},
	{70, ti, []int{5, 5}, ti, 1}, {71, ti, []int{5, 5}, ti, 0}, {72, ti, []int{0xffffffff, 1}, ti, 1}, {73, ti, []int{0xffffffff, 1}, ti, 0},
	{74, ti, []int{0xffffffff, 1}, ti, 0}, {75, ti, []int{0xffffffff, 1}, ti, 1}, {76, ti, []int{0x80000000, 0}, ti, 1}, {77, ti, []int{0x80000000, 0}, ti, 0},
	{78, ti, []int{0x80000000, 0}, ti, 0}, {79, ti, []int{0x80000000, 0}, ti, 1},
	{80, tl, []int{0}, ti, 1}, {80, tl, []int{1 << 32}, ti, 0}, {80, tl, []int{-1}, ti, 0},
	{81, tl, []int{1 << 32, 0}, ti, 0}, {82, tl, []int{1 << 32, 0}, ti, 1}, {83, tl, []int{-1, 1}, ti, 1}, {84, tl, []int{-1, 1}, ti, 0},
	{85, tl, []int{-1, 1}, ti, 0}, {86, tl, []int{-1, 1}, ti, 1}, {87, tl, []int{minus64, 0}, ti, 1}, {88, tl, []int{minus64, 0}, ti, 0},
	{89, tl, []int{minus64, 0}, ti, 0}, {90, tl, []int{minus64, 0}, ti, 1},
	{91, tf, []int{0, minus32}, ti, 1}, {92, tf, []int{nan32, nan32}, ti, 1}, {93, tf, []int{one32 | minus32, one32}, ti, 1}, {94, tf, []int{one32 | minus32, one32}, ti, 0},
	{95, tf, []int{one32, one32}, ti, 1}, {96, tf, []int{one32, two32}, ti, 0},
	{97, td, []int{0, minus64}, ti, 1}, {98, td, []int{nan64, nan64}, ti, 1}, {99, td, []int{one64 | minus64, one64}, ti, 1}, {100, td, []int{one64 | minus64, one64}, ti, 0},
	{101, td, []int{one64, one64}, ti, 1}, {102, td, []int{one64, two64}, ti, 0},
	{103, ti, []int{1}, ti, 31}, {104, ti, []int{0}, ti, 32}, {105, ti, []int{0xffffffff}, ti, 32},
	{106, ti, []int{0xffffffff, 2}, ti, 1}, {107, ti, []int{1, 2}, ti, 0xffffffff}, {108, ti, []int{0xffffffff, 3}, ti, 0xfffffffd},
	{109, ti, []int{0xfffffff9, 2}, ti, 0xfffffffd}, {110, ti, []int{0xfffffff9, 2}, ti, 0x7ffffffc}, {111, ti, []int{0xfffffff9, 2}, ti, 0xffffffff},
	{111, ti, []int{0x80000000, 0xffffffff}, ti, 0}, {112, ti, []int{0xfffffff9, 4}, ti, 1}, {113, ti, []int{12, 10}, ti, 8}, {114, ti, []int{12, 10}, ti, 14},
	{115, ti, []int{12, 10}, ti, 6}, {116, ti, []int{0xc0000001, 33}, ti, 0x80000002}, {117, ti, []int{0x80000000, 4}, ti, 0xf8000000},
	{118, ti, []int{0x80000000, 4}, ti, 0x08000000}, {119, ti, []int{0x80000001, 4}, ti, 0x18}, {120, ti, []int{0x80000001, 4}, ti, 0x18000000},
	{121, tl, []int{1}, tl, 63}, {122, tl, []int{0}, tl, 64}, {123, tl, []int{-1}, tl, 64},
	{124, tl, []int{-1, 2}, tl, 1}, {125, tl, []int{1, 2}, tl, -1}, {126, tl, []int{-1, 3}, tl, -3},
	{127, tl, []int{-7, 2}, tl, -3}, {128, tl, []int{-7, 2}, tl, 0x7ffffffffffffffc}, {129, tl, []int{-7, 2}, tl, -1},
	{129, tl, []int{minus64, -1}, tl, 0}, {130, tl, []int{-7, 4}, tl, 1}, {131, tl, []int{12, 10}, tl, 8}, {132, tl, []int{12, 10}, tl, 14},
	{133, tl, []int{12, 10}, tl, 6}, {134, tl, []int{3, 127}, tl, minus64}, {135, tl, []int{minus64, 60}, tl, -8},
	{136, tl, []int{minus64, 60}, tl, 8}, {137, tl, []int{minus64 + 1, 4}, tl, 0x18}, {138, tl, []int{minus64 + 1, 4}, tl, 0x1800000000000000},
	{139, tf, []int{0xffc00005}, tf, 0x7fc00005}, {140, tf, []int{0x7fc00005}, tf, 0xffc00005}, {141, tf, []int{0xbf000000}, tf, minus32},
	{142, tf, []int{0xbf000000}, tf, one32 | minus32}, {143, tf, []int{0x3fc00000}, tf, one32}, {144, tf, []int{0x40200000}, tf, two32},
	{145, tf, []int{0x40800000}, tf, two32}, {145, tf, []int{one32 | minus32}, tf, nan32}, {146, tf, []int{one32, two32}, tf, three32}, {147, tf, []int{one32, two32}, tf, one32 | minus32},
	{148, tf, []int{top32, two32}, tf, inf32}, {149, tf, []int{one32, minus32}, tf, inf32 | minus32}, {150, tf, []int{0, minus32}, tf, minus32},
	{151, tf, []int{0, minus32}, tf, 0}, {152, tf, []int{one32, minus32}, tf, one32 | minus32},
	{153, td, []int{nan64 + 5 | minus64}, td, nan64 + 5}, {154, td, []int{nan64 + 5}, td, nan64 + 5 | minus64}, {155, td, []int{0x3fe0000000000000 | minus64}, td, minus64},
	{156, td, []int{0x3fe0000000000000 | minus64}, td, one64 | minus64}, {157, td, []int{0x3ff8000000000000}, td, one64}, {158, td, []int{0x4004000000000000}, td, two64},
	{159, td, []int{0x4010000000000000}, td, two64}, {159, td, []int{one64 | minus64}, td, nan64}, {160, td, []int{one64, two64}, td, three64}, {161, td, []int{one64, two64}, td, one64 | minus64},
	{162, td, []int{top64, two64}, td, inf64}, {163, td, []int{one64, minus64}, td, inf64 | minus64}, {164, td, []int{0, minus64}, td, minus64},
	{165, td, []int{0, minus64}, td, 0}, {166, td, []int{one64, minus64}, td, one64 | minus64},
	{167, tl, []int{-1}, ti, 0xffffffff}, {168, tf, []int{three32 | minus32}, ti, 0xfffffffd}, {169, tf, []int{0x4f000000}, ti, 0x80000000},
	{170, td, []int{three64 | minus64}, ti, 0xfffffffd}, {171, td, []int{0x41e0000000000000}, ti, 0x80000000},
	{172, ti, []int{0x80000000}, tl, -1 << 31}, {173, ti, []int{0x80000000}, tl, 1 << 31},
	{174, tf, []int{three32 | minus32}, tl, -3}, {175, tf, []int{0x5f000000}, tl, minus64}, {176, td, []int{three64 | minus64}, tl, -3}, {177, td, []int{0x43e0000000000000}, tl, minus64},
	{178, ti, []int{0xffffffff}, tf, one32 | minus32}, {179, ti, []int{0xffffffff}, tf, 0x4f800000}, {180, tl, []int{-1}, tf, one32 | minus32}, {181, tl, []int{-1}, tf, 0x5f800000},
	{182, td, []int{three64}, tf, three32}, {182, td, []int{top64}, tf, inf32}, {182, td, []int{nan64 + 5}, tf, nan32},
	{183, ti, []int{0xffffffff}, td, one64 | minus64}, {184, ti, []int{0xffffffff}, td, 0x41efffffffe00000}, {185, tl, []int{-1}, td, one64 | minus64}, {186, tl, []int{-1}, td, 0x43f0000000000000},
	{187, tf, []int{three32}, td, three64}, {187, tf, []int{nan32 + 5}, td, nan64},
	{188, tf, []int{0xffc00005}, ti, 0xffc00005}, {189, td, []int{-5}, tl, -5}, {190, ti, []int{0xffc00005}, tf, 0xffc00005}, {191, tl, []int{-5}, td, -5},
}

func TestKnownResults(t *testing.T) {
	asked := map[int]int{}
	for _, c := range known {
		asked[c.op]++
		check(t, c.op, values(c.param, c.bits...), api.Val{Type: c.result, Bits: c.want}, api.TrapNone, api.OK)
	}
	eachOp(t, func(op int, name string, params []int, result int) {
		if asked[op] == 0 {
			t.Errorf("no known result of %d (%s)", op, name)
		}
	})
}

func TestTrapsOfDivisions(t *testing.T) {
	none := api.Val{}
	for op := 109; op <= 112; op++ {
		for _, a := range []int{0, 1, 0x80000000, 0xffffffff} {
			check(t, op, values(ti, a, 0), none, api.TrapDivZero, api.OK)
		}
	}
	for op := 127; op <= 130; op++ {
		for _, a := range []int{0, 1, 1 << 32, minus64, -1} {
			check(t, op, values(tl, a, 0), none, api.TrapDivZero, api.OK)
		}
	}
	check(t, 109, values(ti, 0x80000000, 0xffffffff), none, api.TrapOverflow, api.OK)
	check(t, 127, values(tl, minus64, -1), none, api.TrapOverflow, api.OK)
	// Beside those: other divisions of the same bits, and floats, end in values.
	check(t, 110, values(ti, 0x80000000, 0xffffffff), api.Val{Type: ti}, api.TrapNone, api.OK)
	check(t, 109, values(ti, 0x80000001, 0xffffffff), api.Val{Type: ti, Bits: 0x7fffffff}, api.TrapNone, api.OK)
	check(t, 128, values(tl, minus64, -1), api.Val{Type: tl}, api.TrapNone, api.OK)
	check(t, 127, values(tl, minus64+1, -1), api.Val{Type: tl, Bits: math.MaxInt}, api.TrapNone, api.OK)
	check(t, 149, values(tf, one32, 0), api.Val{Type: tf, Bits: inf32}, api.TrapNone, api.OK)
	check(t, 149, values(tf, 0, 0), api.Val{Type: tf, Bits: nan32}, api.TrapNone, api.OK)
	check(t, 163, values(td, one64, 0), api.Val{Type: td, Bits: inf64}, api.TrapNone, api.OK)
	check(t, 163, values(td, 0, 0), api.Val{Type: td, Bits: nan64}, api.TrapNone, api.OK)
}

// edges: a truncation, the last float that lies in its type at each end, and the next one that does not.
var edges = []struct{ op, param, top, beyond, low, below int }{
	{168, tf, 0x4effffff, 0x4f000000, 0xcf000000, 0xcf000001},
	{169, tf, 0x4f7fffff, 0x4f800000, 0xbf7fffff, 0xbf800000},
	{170, td, 0x41dfffffffffffff, 0x41e0000000000000, 0x41e00000001fffff | minus64, 0x41e0000000200000 | minus64},
	{171, td, 0x41efffffffffffff, 0x41f0000000000000, 0x3fefffffffffffff | minus64, one64 | minus64},
	{174, tf, 0x5effffff, 0x5f000000, 0xdf000000, 0xdf000001},
	{175, tf, 0x5f7fffff, 0x5f800000, 0xbf7fffff, 0xbf800000},
	{176, td, 0x43dfffffffffffff, 0x43e0000000000000, 0x43e0000000000000 | minus64, 0x43e0000000000001 | minus64},
	{177, td, 0x43efffffffffffff, 0x43f0000000000000, 0x3fefffffffffffff | minus64, one64 | minus64},
}

func TestTrapsOfTruncations(t *testing.T) {
	infinities := map[int][]int{tf: {inf32, inf32 | minus32, top32, top32 | minus32}, td: {inf64, inf64 | minus64, top64, top64 | minus64}}
	noNumbers := map[int][]int{tf: {nan32, nan32 | minus32, 0x7f800001, 0xff800001, 0x7fffffff, 0xffffffff},
		td: {nan64, nan64 | minus64, inf64 + 1, inf64 + 1 | minus64, math.MaxInt, -1}}
	for _, c := range edges {
		for _, far := range append([]int{c.beyond, c.below}, infinities[c.param]...) {
			check(t, c.op, values(c.param, far), api.Val{}, api.TrapOverflow, api.OK)
		}
		for _, x := range noNumbers[c.param] {
			check(t, c.op, values(c.param, x), api.Val{}, api.TrapConvert, api.OK)
		}
		for _, x := range []int{c.top, c.low, 0} {
			if v, trap, e := Of(c.op, api.Val{Type: c.param, Bits: x}); v.Type == 0 || trap != api.TrapNone || e != api.OK {
				t.Errorf("P7.2: Of(%d, %#x): %v, %d, %d; want a value", c.op, uint64(x), v, trap, e)
			}
		}
	}
}

// samples: bits to try of each type, ends and floats of all kinds among them.
func samples(kind int) []int {
	if kind == ti || kind == tf {
		return []int{0, 1, 2, 5, 31, 32, 0x7fffffff, minus32, minus32 + 1, 0xfffffffe, 0xffffffff, one32, one32 | minus32, three32,
			0x40200000, 0xbf000000, 0x4f000000, 0x5f000000, 0xcf000000, top32, inf32, inf32 | minus32, nan32, 0xffc00005, 0x7f800001}
	}
	return []int{0, 1, 2, 5, 63, 64, 1 << 31, 0xffffffff, 1 << 32, math.MaxInt, minus64, minus64 + 1, -2, -1, one64, one64 | minus64, three64,
		0x4004000000000000, 0x3fe0000000000000 | minus64, 0x41e0000000000000, 0x43e0000000000000, 0x43e0000000000000 | minus64,
		top64, inf64, inf64 | minus64, nan64, nan64 + 5 | minus64, inf64 + 1}
}

// byLayer asks the layer of an operation itself.
func byLayer(op int, params []int, bits []int) (int, api.Errno) {
	switch {
	case op >= 167:
		return convn.Of(op, bits[0])
	case len(params) == 1 && params[0] == ti:
		return i32n.Un(op, bits[0])
	case len(params) == 1 && params[0] == tl:
		return i64n.Un(op, bits[0])
	case len(params) == 1 && params[0] == tf:
		return f32n.Un(op, bits[0])
	case len(params) == 1:
		return f64n.Un(op, bits[0])
	case params[0] == ti:
		return i32n.Bin(op, bits[0], bits[1])
	case params[0] == tl:
		return i64n.Bin(op, bits[0], bits[1])
	case params[0] == tf:
		return f32n.Bin(op, bits[0], bits[1])
	}
	return f64n.Bin(op, bits[0], bits[1])
}

// trapFor gives the trap that the document names for a layer's error.
func trapFor(t *testing.T, op int, code api.Errno) int {
	t.Helper()
	traps := map[api.Errno]int{api.ErrI32Zero: api.TrapDivZero, api.ErrI64Zero: api.TrapDivZero, api.ErrI32Over: api.TrapOverflow,
		api.ErrI64Over: api.TrapOverflow, api.ErrConvRange: api.TrapOverflow, api.ErrConvForm: api.TrapConvert}
	trap, is := traps[code]
	if !is {
		t.Fatalf("%d: the layer answers %d", op, code)
	}
	return trap
}

// TestOfIsByTheLayers holds every operation against its layer.
func TestOfIsByTheLayers(t *testing.T) {
	ask := func(op int, params []int, result int, bits ...int) {
		t.Helper()
		want, code := byLayer(op, params, bits)
		if code != api.OK {
			check(t, op, values(params[0], bits...), api.Val{}, trapFor(t, op, code), api.OK)
			return
		}
		check(t, op, values(params[0], bits...), api.Val{Type: result, Bits: want}, api.TrapNone, api.OK)
	}
	eachOp(t, func(op int, name string, params []int, result int) {
		for _, a := range samples(params[0]) {
			if len(params) == 1 {
				ask(op, params, result, a)
				continue
			}
			for _, b := range samples(params[0]) {
				ask(op, params, result, a, b)
			}
		}
	})
}

// TestResultsAreValues asks that a result may be handed in again: bits of 32 lie from 0 on below 2^32.
func TestResultsAreValues(t *testing.T) {
	again := map[int]int{ti: 69, tl: 80, tf: 139, td: 153}
	eachOp(t, func(op int, name string, params []int, result int) {
		for _, a := range samples(params[0]) {
			v, trap, _ := Of(op, slices.Repeat(values(params[0], a), len(params))...)
			if trap != api.TrapNone {
				continue
			}
			if _, _, e := Of(again[v.Type], v); e != api.OK || v.Type != result {
				t.Errorf("P7.2: Of(%d, %#x): %v is no value of type %d", op, uint64(a), v, result)
			}
		}
	})
}

// refused asks for ErrApplyForm, and nothing beside it.
func refused(t *testing.T, op int, vs ...api.Val) {
	t.Helper()
	check(t, op, vs, api.Val{}, api.TrapNone, api.ErrApplyForm)
}

func TestOfNoOperation(t *testing.T) {
	for _, op := range wrongOps() {
		refused(t, op)
		for _, kind := range []int{ti, tl, tf, td} {
			refused(t, op, values(kind, 1)...)
			refused(t, op, values(kind, 1, 0)...)
		}
		refused(t, op, api.Val{Type: api.TypeNone, Bits: -1})
	}
}

func TestWrongCounts(t *testing.T) {
	eachOp(t, func(op int, name string, params []int, result int) {
		for count := range 6 {
			if count != len(params) {
				refused(t, op, slices.Repeat(values(params[0], 1), count)...)
				refused(t, op, slices.Repeat(values(params[0], 0), count)...)
			}
		}
		if v, trap, e := Of(op); v != (api.Val{}) || trap != api.TrapNone || e != api.ErrApplyForm {
			t.Errorf("P7.2: Of(%d): %v, %d, %d", op, v, trap, e)
		}
	})
}

func TestWrongTypes(t *testing.T) {
	eachOp(t, func(op int, name string, params []int, result int) {
		for place := range params {
			for _, kind := range []int{ti, tl, tf, td, api.TypeNone, 0, 1, -1, 123, 128, ti + 256, ti - 256, math.MinInt, math.MaxInt} {
				vs := slices.Repeat(values(params[0], 1), len(params))
				vs[place].Type = kind
				if kind != params[0] {
					refused(t, op, vs...)
				}
			}
		}
		refused(t, op, make([]api.Val, len(params))...)
	})
}

func TestWrongBits(t *testing.T) {
	eachOp(t, func(op int, name string, params []int, result int) {
		for place := range params {
			for _, bits := range []int{-1, -2, -1 << 31, -1 << 32, minus64, 1 << 32, 1<<32 + 1, one32 + 1<<32, 1 << 62, math.MaxInt} {
				vs := slices.Repeat(values(params[0], one32), len(params))
				vs[place].Bits = bits
				if params[0] == ti || params[0] == tf {
					refused(t, op, vs...)
					continue
				}
				// Of 64 bits an int may be any.
				if _, _, e := Of(op, vs...); e != api.OK {
					t.Errorf("P7.2: Of(%d, %v): %d", op, vs, e)
				}
			}
			for _, bits := range []int{0, 1, 1 << 31, 1<<32 - 1} {
				vs := slices.Repeat(values(params[0], one32), len(params))
				vs[place].Bits = bits
				if _, _, e := Of(op, vs...); e != api.OK {
					t.Errorf("P7.2: Of(%d, %v): %d", op, vs, e)
				}
			}
		}
	})
}

// TestWrongValuesAheadOfTraps asks for the error where a trap would come, too.
func TestWrongValuesAheadOfTraps(t *testing.T) {
	refused(t, 109, values(ti, 1<<32, 0)...)
	refused(t, 109, values(ti, -1<<31, 0xffffffff)...)
	refused(t, 109, values(ti, 0x80000000, -1)...)
	refused(t, 109, values(tl, 1, 0)...)
	refused(t, 127, values(ti, 1, 0)...)
	refused(t, 127, api.Val{Type: ti, Bits: 1}, api.Val{Type: tl})
	refused(t, 168, values(tf, nan32-1<<32)...)
	refused(t, 168, values(td, nan64)...)
	refused(t, 170, values(tf, nan32)...)
	refused(t, 168, values(tf, nan32, nan32)...)
}
