package constx

import (
	"math"
	"reflect"
	"slices"
	"strconv"
	"sync"
	"testing"

	"pelorus/api"
)

// four are the types that there are; consts the operation of each one's constant.
func four() []int { return []int{127, 126, 125, 124} }

func consts() []int { return []int{65, 66, 67, 68} }

// noTypes are numbers that are none of the four types.
func noTypes() []int {
	return []int{0, 1, -1, 64, 65, 68, 123, 128, 255, -127, -124, 1<<8 + 127, 1<<32 + 127, 1<<32 + 124, math.MinInt, math.MaxInt}
}

// home gives a module with imports of all kinds between one another, and globals of its own.
//
// Globals: 0 i, 1 l mut, 2 f, 3 d, 4 i mut, 5 l are imported; 6 i, 7 l, 8 f mut are its own.
func home() api.Module {
	limits := api.Limits{Least: 1, Most: -1}
	return api.Module{
		Types: []api.FuncType{{}, {Results: []int{127}}},
		Imports: []api.Import{
			{Module: "m", Name: "a", Type: 1}, {Module: "m", Name: "b", Kind: 3, Type: 127}, {Module: "m", Name: "c", Kind: 3, Type: 126, Mut: true},
			{Module: "m", Name: "d", Kind: 2, Limits: limits}, {Module: "m", Name: "e", Kind: 3, Type: 125}, {Module: "m", Name: "f", Kind: 3, Type: 124},
			{Module: "m", Name: "g", Kind: 1, Limits: limits}, {Module: "m", Name: "h", Kind: 3, Type: 127, Mut: true}, {Module: "m", Name: "i"},
			{Module: "m", Name: "j", Kind: 3, Type: 126}, {Module: "m", Name: "k"},
		},
		Funcs:   []int{0},
		Globals: []api.Global{{Type: 127, Init: constant(65, 3)}, {Type: 126, Init: get(5)}, {Type: 125, Mut: true, Init: get(2)}},
		Start:   -1,
		Codes:   make([]api.Code, 1),
	}
}

// constant gives a list of one constant, get one of OpGlobalGet.
func constant(op, bits int) []api.Instr { return []api.Instr{{Op: op, Bits: bits}} }

func get(k int) []api.Instr { return []api.Instr{{Op: api.OpGlobalGet, A: k}} }

// asks asks Check, and that nothing was changed.
func asks(t *testing.T, what string, m api.Module, is []api.Instr, kind int, want api.Errno) {
	t.Helper()
	before := slices.Clone(is)
	if got := Check(m, is, kind); got != want {
		t.Errorf("P20.1: %s: Check of type %d: %d; want %d", what, kind, got, want)
	}
	if !reflect.DeepEqual(is, before) {
		t.Errorf("R4: %s: %v; was %v", what, is, before)
	}
}

// is asks that a list is a constant expression of that type, and of no other.
func is(t *testing.T, what string, m api.Module, list []api.Instr, kind int) {
	t.Helper()
	asks(t, what, m, list, kind, api.OK)
	for _, x := range append(four(), noTypes()...) {
		if x != kind {
			asks(t, what, m, list, x, api.ErrConstType)
		}
	}
}

// isNone asks that a list is no constant expression, whatever type is asked for.
func isNone(t *testing.T, what string, m api.Module, list []api.Instr) {
	t.Helper()
	for _, x := range append(four(), noTypes()...) {
		asks(t, what, m, list, x, api.ErrConstForm)
	}
}

// Constants of each type with bits at their ends, and one beyond.
func TestConstants(t *testing.T) {
	for k, op := range consts() {
		for _, bits := range []int{0, 1, 2, 127, 1<<31 - 1, 1 << 31, 1<<32 - 1, 0x7fc00000} {
			for _, m := range []api.Module{{}, home()} {
				is(t, "constant "+strconv.Itoa(op)+" "+strconv.Itoa(bits), m, constant(op, bits), four()[k])
			}
		}
		for _, bits := range []int{-1, -2, -1 << 31, -1 << 32, 1 << 32, 1<<32 + 1, math.MinInt, math.MaxInt} {
			what := "constant " + strconv.Itoa(op) + " " + strconv.Itoa(bits)
			if op == 65 || op == 67 {
				isNone(t, what, home(), constant(op, bits))
			} else {
				is(t, what, home(), constant(op, bits), four()[k])
			}
		}
	}
}

// Globals: imported ones that are not mut, and no others.
func TestGlobals(t *testing.T) {
	m := home()
	for k, kind := range map[int]int{0: 127, 2: 125, 3: 124, 5: 126} {
		is(t, "global "+strconv.Itoa(k), m, get(k), kind)
	}
	for _, k := range []int{1, 4, 6, 7, 8, 9, 10, 255, 1 << 31, 1<<32 - 1, -1, -2, math.MinInt, math.MaxInt, 1 << 32, 1<<32 + 2} {
		isNone(t, "global "+strconv.Itoa(k), m, get(k))
	}
	for _, k := range []int{0, 1, 1<<32 - 1} {
		isNone(t, "a global of none", api.Module{}, get(k))
		isNone(t, "a global of its own alone", api.Module{Globals: m.Globals}, get(k))
	}
	m.Globals = nil
	is(t, "a global without own ones", m, get(5), 126)
	isNone(t, "one more without own ones", m, get(6))
	for kind := -1; kind < 6; kind++ {
		m.Imports = []api.Import{{Kind: kind, Type: 127}}
		if kind == api.KindGlobal {
			is(t, "an import of globals", m, get(0), 127)
		} else {
			isNone(t, "an import of kind "+strconv.Itoa(kind), m, get(0))
		}
	}
}

// In a module that was not looked at yet, a global's type is as it stands.
func TestOddTypes(t *testing.T) {
	for _, x := range noTypes() {
		is(t, "a global of no type", api.Module{Imports: []api.Import{{Kind: 3, Type: x}}}, get(0), x)
		isNone(t, "a mut global of no type", api.Module{Imports: []api.Import{{Kind: 3, Type: x, Mut: true}}}, get(0))
	}
}

// Lists of no instruction, or of more than one.
func TestNotOne(t *testing.T) {
	m := home()
	for _, list := range [][]api.Instr{nil, {}, make([]api.Instr, 0, 4), constant(65, 0)[:0]} {
		isNone(t, "none", m, list)
	}
	nop := api.Instr{Op: api.OpNop}
	for _, one := range [][]api.Instr{constant(65, 1), constant(66, 1), constant(67, 1), constant(68, 1), get(0), get(5)} {
		isNone(t, "twice", m, append(slices.Clone(one), one...))
		isNone(t, "behind OpNop", m, append([]api.Instr{nop}, one...))
		isNone(t, "ahead of OpNop", m, append(slices.Clone(one), nop))
		isNone(t, "ahead of what may not be", m, append(slices.Clone(one), api.Instr{Op: 5}))
		isNone(t, "in a block", m, []api.Instr{{Op: api.OpBlock, Type: 127, Body: one}})
		for n := range 3 {
			isNone(t, "thrice and more", m, slices.Repeat(one, 3+n))
		}
		if got := Check(m, slices.Repeat(one, 1<<17), 127); got != api.ErrConstForm {
			t.Errorf("P20.1: many: %d", got)
		}
	}
}

// Every other operation, with numbers that it may have, and with none.
func TestOtherOps(t *testing.T) {
	for op := -300; op <= 600; op++ {
		if slices.Contains(consts(), op) || op == api.OpGlobalGet {
			continue
		}
		for _, i := range []api.Instr{{}, {Type: 64}, {Type: 127}, {A: 1}, {A: 2, B: 8}, {Bits: 1}, {Labels: []int{0}}, {Type: 127, Body: constant(65, 0)}, {Type: 127, Body: constant(65, 0), Else: constant(65, 0)}} {
			i.Op = op
			for _, kind := range []int{127, 126, 125, 124, 64, 0} {
				asks(t, "Op "+strconv.Itoa(op), home(), []api.Instr{i}, kind, api.ErrConstForm)
			}
		}
	}
	for _, op := range []int{math.MinInt, math.MaxInt, 1<<32 + 65, 1<<32 + 35, -65, 1<<16 + 65, math.MinInt + 65} {
		isNone(t, "Op "+strconv.Itoa(op), home(), []api.Instr{{Op: op}})
	}
}

// Each field that a constant and OpGlobalGet do not use.
func TestUnusedFields(t *testing.T) {
	one := []api.Instr{{Op: api.OpNop}}
	for _, op := range append(consts(), api.OpGlobalGet) {
		wrong := []api.Instr{{B: 1}, {B: -1}, {Type: 64}, {Type: 127}, {Labels: []int{0}}, {Body: one}, {Else: one}}
		if op == api.OpGlobalGet {
			wrong = append(wrong, api.Instr{Bits: 1}, api.Instr{Bits: -1})
		} else {
			wrong = append(wrong, api.Instr{A: 1}, api.Instr{A: -1})
		}
		for k, i := range wrong {
			i.Op = op
			isNone(t, "Op "+strconv.Itoa(op)+" with field "+strconv.Itoa(k), home(), []api.Instr{i})
		}
		// Empty lists are none.
		asks(t, "empty lists", home(), []api.Instr{{Op: op, Labels: []int{}, Body: one[:0], Else: []api.Instr{}}}, map[int]int{65: 127, 66: 126, 67: 125, 68: 124, 35: 127}[op], api.OK)
	}
}

// Lists that hold themselves, and very great ones, end soon.
func TestEndless(t *testing.T) {
	ring := make([]api.Instr, 1)
	for _, op := range []int{2, 3, 4, 35, 65, 66, 67, 68, 5} {
		ring[0] = api.Instr{Op: op, Type: 64, Body: ring}
		ring[0].Else = ring
		if got := Check(home(), ring, 127); got != api.ErrConstForm {
			t.Errorf("P20.1: a list that holds itself: %d", got)
		}
	}
	deep := constant(65, 0)
	for range 60000 {
		deep = []api.Instr{{Op: 2, Type: 127, Body: deep}}
	}
	if got := Check(home(), deep, 127); got != api.ErrConstForm {
		t.Errorf("P20.1: 60000 blocks in one another: %d", got)
	}
	m := api.Module{Imports: slices.Repeat([]api.Import{{Kind: 3, Type: 126}}, 1<<20)}
	for range 5 {
		asks(t, "the last of a million", m, get(1<<20-1), 126, api.OK)
		asks(t, "one more than a million", m, get(1<<20), 126, api.ErrConstForm)
	}
}

// What is handed in stays as it was, its spare room too, and plain calls go on at one time.
func TestUnchanged(t *testing.T) {
	m := home()
	list := append(make([]api.Instr, 0, 5), get(0)...)
	list[:5][1] = api.Instr{Op: 99, A: 99}
	all := append(make([]api.Import, 0, 20), m.Imports...)
	all[:20][len(all)] = api.Import{Name: "spare"}
	m.Imports = all
	var group sync.WaitGroup
	for range 8 {
		group.Go(func() {
			for range 500 {
				asks(t, "at one time", m, list, 127, api.OK)
				asks(t, "at one time", m, list, 126, api.ErrConstType)
				asks(t, "at one time", m, list[:2], 127, api.ErrConstForm)
			}
		})
	}
	group.Wait()
	if want := (api.Instr{Op: 99, A: 99}); !reflect.DeepEqual(list[:5][1], want) || !reflect.DeepEqual(list, get(0)) {
		t.Errorf("R4: %v", list[:5])
	}
	if all[:20][len(all)].Name != "spare" || !slices.Equal(m.Imports, home().Imports) || !reflect.DeepEqual(m.Globals, home().Globals) {
		t.Errorf("R4: %v", m)
	}
}
