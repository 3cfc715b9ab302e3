package convn

import (
	"math"
	"math/big"
	"testing"

	"pelorus/api"
)

// The floats of 32 bits that the document names, by their bits.
const (
	minus32  = 1 << 31    // the sign
	tiny32   = 1          // the least above 0: 2^-149
	subTop32 = 0x007fffff // the greatest below the normal ones
	normal32 = 0x00800000 // the least normal one: 2^-126
	one32    = 0x3f800000
	middle32 = 0x3fc00000 // 3/2
	top32    = 0x7f7fffff // the greatest
	inf32    = 0x7f800000
	nan32    = 0x7fc00000 // the result that is no number
)

// Those of 64 bits.
const (
	minus64  = -1 << 63
	tiny64   = 1
	subTop64 = 0x000fffffffffffff
	normal64 = 0x0010000000000000
	one64    = 0x3ff0000000000000
	middle64 = 0x3ff8000000000000
	top64    = 0x7fefffffffffffff
	inf64    = 0x7ff0000000000000
	nan64    = 0x7ff8000000000000
)

// noNumbers32: what is no number, of both signs.
var noNumbers32 = []int{nan32, 0x7f800001, 0x7fa12345, nan32 + 5, 0x7fffffff,
	nan32 | minus32, 0x7f800001 | minus32, 0x7fa12345 | minus32, 0xffffffff}

// noNumbers64: as noNumbers32, of 64 bits.
var noNumbers64 = []int{nan64, 0x7ff0000000000001, 0x7ff4123456789abc, nan64 + 5, 0x7ff0000020000000, 0x7fffffffffffffff,
	nan64 | minus64, 0x7ff0000000000001 | minus64, 0x7ff4123456789abc | minus64, -1}

// takes32 tells whether an operation's argument is of 32 bits.
func takes32(op int) bool {
	switch op {
	case 168, 169, 172, 173, 174, 175, 178, 179, 183, 184, 187, 188, 190:
		return true
	}
	return false
}

// alike gives the numbers that an operation may not tell from a, a itself first.
func alike(op, a int) []int {
	if !takes32(op) {
		return []int{a}
	}
	return []int{a, a + 1<<32, a - 1<<32, a ^ math.MinInt, a | 0x5a5a5a5a<<32}
}

// check asks for a result and an error, also of numbers that may not be told from a.
func check(t *testing.T, op, a, want int, code api.Errno) {
	t.Helper()
	for _, a := range alike(op, a) {
		if got, e := Of(op, a); got != want || e != code {
			t.Errorf("P6.1: Of(%d, %#x): %#x, %d; want %#x, %d", op, uint64(a), uint64(got), e, uint64(want), code)
		}
	}
}

func TestWrapAndExtend(t *testing.T) {
	for _, c := range []struct{ a, low, sign int }{
		{0, 0, 0}, {1, 1, 1}, {-1, 0xffffffff, -1}, {0x7fffffff, 0x7fffffff, 0x7fffffff},
		{1 << 31, 1 << 31, -1 << 31}, {1<<31 + 1, 1<<31 + 1, -1<<31 + 1}, {0xffffffff, 0xffffffff, -1},
		{1 << 32, 0, 0}, {1<<32 + 7, 7, 7}, {-1 << 31, 1 << 31, -1 << 31}, {-1<<31 - 1, 0x7fffffff, 0x7fffffff},
		{math.MaxInt, 0xffffffff, -1}, {math.MinInt, 0, 0}, {0x123456789abcdef0, 0x9abcdef0, 0x9abcdef0 - 1<<32},
	} {
		check(t, 167, c.a, c.low, api.OK)
		check(t, 172, c.a, c.sign, api.OK)
		check(t, 173, c.a, c.low, api.OK)
	}
}

// cuts: a truncation, its float, what comes of it.
var cuts = []struct {
	op, a, want int
	code        api.Errno
}{
	// i32.trunc_f32_s: from -2^31 on below 2^31.
	{168, 0x4effffff, 0x7fffff80, api.OK}, {168, 0x4f000000, 0, api.ErrConvRange}, {168, 0x4f000001, 0, api.ErrConvRange},
	{168, 0xceffffff, 0x80000080, api.OK}, {168, 0xcf000000, 0x80000000, api.OK}, {168, 0xcf000001, 0, api.ErrConvRange},
	// i32.trunc_f32_u: below 2^32.
	{169, 0x4f000000, 0x80000000, api.OK}, {169, 0x4f7fffff, 0xffffff00, api.OK}, {169, 0x4f800000, 0, api.ErrConvRange},
	{169, 0x4f800001, 0, api.ErrConvRange}, {169, 0xcf000000, 0, api.ErrConvRange},
	// i32.trunc_f64_s: the last floats that are cut to an end of the type, and the next ones.
	{170, 0x41dfffffffc00000, 0x7fffffff, api.OK}, {170, 0x41dfffffffffffff, 0x7fffffff, api.OK},
	{170, 0x41e0000000000000, 0, api.ErrConvRange}, {170, 0x41e0000000000001, 0, api.ErrConvRange},
	{170, 0x41e0000000000000 | minus64, 0x80000000, api.OK}, {170, 0x41e00000001fffff | minus64, 0x80000000, api.OK},
	{170, 0x41e0000000200000 | minus64, 0, api.ErrConvRange}, {170, 0x41e0000000200001 | minus64, 0, api.ErrConvRange},
	{170, 0x41dfffffffffffff | minus64, 0x80000001, api.OK},
	// i32.trunc_f64_u.
	{171, 0x41e0000000000000, 0x80000000, api.OK}, {171, 0x41efffffffe00000, 0xffffffff, api.OK},
	{171, 0x41efffffffffffff, 0xffffffff, api.OK}, {171, 0x41f0000000000000, 0, api.ErrConvRange},
	{171, 0x41f0000000000001, 0, api.ErrConvRange}, {171, 0x41e0000000000000 | minus64, 0, api.ErrConvRange},
	// i64.trunc_f32_s: from -2^63 on below 2^63.
	{174, 0x5effffff, 1<<63 - 1<<39, api.OK}, {174, 0x5f000000, 0, api.ErrConvRange}, {174, 0x5f000001, 0, api.ErrConvRange},
	{174, 0xdeffffff, -1<<63 + 1<<39, api.OK}, {174, 0xdf000000, -1 << 63, api.OK}, {174, 0xdf000001, 0, api.ErrConvRange},
	{174, 0x4f800000, 1 << 32, api.OK}, {174, 0xcf800000, -1 << 32, api.OK},
	// i64.trunc_f32_u: below 2^64.
	{175, 0x5effffff, 1<<63 - 1<<39, api.OK}, {175, 0x5f000000, -1 << 63, api.OK}, {175, 0x5f000001, -1<<63 + 1<<40, api.OK},
	{175, 0x5f7fffff, -1 << 40, api.OK}, {175, 0x5f800000, 0, api.ErrConvRange}, {175, 0x5f800001, 0, api.ErrConvRange},
	{175, 0xdf000000, 0, api.ErrConvRange},
	// i64.trunc_f64_s.
	{176, 0x43dfffffffffffff, 1<<63 - 1<<10, api.OK}, {176, 0x43e0000000000000, 0, api.ErrConvRange},
	{176, 0x43e0000000000001, 0, api.ErrConvRange}, {176, 0x43dfffffffffffff | minus64, -1<<63 + 1<<10, api.OK},
	{176, 0x43e0000000000000 | minus64, -1 << 63, api.OK}, {176, 0x43e0000000000001 | minus64, 0, api.ErrConvRange},
	{176, 0x432fffffffffffff, 1<<52 - 1, api.OK}, {176, 0x432fffffffffffff | minus64, -1<<52 + 1, api.OK},
	{176, 0x433fffffffffffff, 1<<53 - 1, api.OK},
	// i64.trunc_f64_u.
	{177, 0x43dfffffffffffff, 1<<63 - 1<<10, api.OK}, {177, 0x43e0000000000000, -1 << 63, api.OK},
	{177, 0x43e0000000000001, -1<<63 + 1<<11, api.OK}, {177, 0x43efffffffffffff, -1 << 11, api.OK},
	{177, 0x43f0000000000000, 0, api.ErrConvRange}, {177, 0x43f0000000000001, 0, api.ErrConvRange},
	{177, 0x43e0000000000000 | minus64, 0, api.ErrConvRange},
}

func TestCutsAtTheEnds(t *testing.T) {
	for _, c := range cuts {
		check(t, c.op, c.a, c.want, c.code)
	}
}

// smallCuts: a float of 32 and of 64 bits below 3, and what it is cut to.
var smallCuts = []struct{ a32, a64, want int }{
	{0, 0, 0}, {tiny32, tiny64, 0}, {subTop32, subTop64, 0}, {normal32, normal64, 0}, {0x3f000000, 0x3fe0000000000000, 0},
	{one32 - 1, one64 - 1, 0}, {one32, one64, 1}, {one32 + 1, one64 + 1, 1}, {middle32, middle64, 1},
	{0x3fffffff, 0x3fffffffffffffff, 1}, {0x40000000, 0x4000000000000000, 2}, {0x40200000, 0x4004000000000000, 2},
}

func TestCutsOfSmallFloats(t *testing.T) {
	for _, c := range smallCuts {
		for op := 168; op <= 169; op++ {
			check(t, op, c.a32, c.want, api.OK)
			check(t, op+2, c.a64, c.want, api.OK)
			check(t, op+6, c.a32, c.want, api.OK)
			check(t, op+8, c.a64, c.want, api.OK)
		}
		below := -c.want
		check(t, 168, c.a32|minus32, below&0xffffffff, api.OK)
		check(t, 170, c.a64|minus64, below&0xffffffff, api.OK)
		check(t, 174, c.a32|minus32, below, api.OK)
		check(t, 176, c.a64|minus64, below, api.OK)
		// Without sign just what lies between -1 and 0 becomes 0.
		code := api.OK
		if c.want > 0 {
			code = api.ErrConvRange
		}
		check(t, 169, c.a32|minus32, 0, code)
		check(t, 171, c.a64|minus64, 0, code)
		check(t, 175, c.a32|minus32, 0, code)
		check(t, 177, c.a64|minus64, 0, code)
	}
}

func TestCutsOfNoNumberAndInfinities(t *testing.T) {
	for _, op := range []int{168, 169, 174, 175} {
		for _, x := range noNumbers32 {
			check(t, op, x, 0, api.ErrConvForm)
		}
		for _, x := range []int{inf32, inf32 | minus32, top32, top32 | minus32} {
			check(t, op, x, 0, api.ErrConvRange)
		}
	}
	for _, op := range []int{170, 171, 176, 177} {
		for _, x := range noNumbers64 {
			check(t, op, x, 0, api.ErrConvForm)
		}
		for _, x := range []int{inf64, inf64 | minus64, top64, top64 | minus64} {
			check(t, op, x, 0, api.ErrConvRange)
		}
	}
}

// row is a row of numbers that look like any.
type row uint64

// below gives a number from 0 on below n.
func (r *row) below(n int) int {
	*r = *r*6364136223846793005 + 1442695040888963407
	return int(uint64(*r) >> 32 % uint64(n))
}

// word gives a number of 64 bits.
func (r *row) word() int { return r.below(1<<32)<<32 | r.below(1<<32) }

// float32 gives the bits of a float with this exponent's bits.
func (r *row) float32(exponent int) int {
	return r.below(2)<<31 | exponent<<23 | r.below(1<<23)
}

// float64 gives the bits of a float with this exponent's bits.
func (r *row) float64(exponent int) int {
	return r.below(2)<<63 | exponent<<52 | r.below(1<<26)<<26 | r.below(1<<26)
}

// scaled gives number * 2^power, exactly.
func scaled(number, power int) *big.Rat {
	value := new(big.Rat).SetInt64(int64(number))
	shift := new(big.Int).Lsh(big.NewInt(1), uint(max(power, -power)))
	if power < 0 {
		return value.Quo(value, new(big.Rat).SetInt(shift))
	}
	return value.Mul(value, new(big.Rat).SetInt(shift))
}

// exact gives the value of a float that is a number, read from its bits: so many of them hold the fraction,
// and so many the exponent.
func exact(x, fraction, exponent int) *big.Rat {
	bias := 1<<(exponent-1) - 1
	part, power := x&(1<<fraction-1), x>>fraction&(1<<exponent-1)
	if power == 0 {
		power = 1
	} else {
		part |= 1 << fraction
	}
	value := scaled(part, power-bias-fraction)
	if x>>(fraction+exponent)&1 == 1 {
		value.Neg(value)
	}
	return value
}

// exact32 and exact64 give the values of floats of 32 and of 64 bits.
func exact32(x int) *big.Rat { return exact(x, 23, 8) }
func exact64(x int) *big.Rat { return exact(x, 52, 11) }

// toward0 gives a value without its fraction.
func toward0(value *big.Rat) *big.Int {
	return new(big.Int).Quo(value.Num(), value.Denom())
}

// checkCut holds a truncation against the whole number that comes of the float's value: of a type with so many
// bits, with sign or without.
func checkCut(t *testing.T, op, a int, value *big.Rat, width uint, signed bool) {
	t.Helper()
	whole := toward0(value)
	least, end := new(big.Int), new(big.Int).Lsh(big.NewInt(1), width)
	if signed {
		end.Rsh(end, 1)
		least.Neg(end)
	}
	if whole.Cmp(least) < 0 || whole.Cmp(end) >= 0 {
		check(t, op, a, 0, api.ErrConvRange)
		return
	}
	modulus := new(big.Int).Lsh(big.NewInt(1), width)
	check(t, op, a, int(new(big.Int).Mod(whole, modulus).Uint64()), api.OK)
}

// TestCutsAreThoseOfWholeNumbers holds truncations of all sizes against whole numbers.
func TestCutsAreThoseOfWholeNumbers(t *testing.T) {
	r := row(1)
	for range 10000 {
		power := r.below(70) - 3
		a, b := r.float32(127+power), r.float64(1023+power)
		for k, signed := range []bool{true, false} {
			checkCut(t, 168+k, a, exact32(a), 32, signed)
			checkCut(t, 170+k, b, exact64(b), 32, signed)
			checkCut(t, 174+k, a, exact32(a), 64, signed)
			checkCut(t, 176+k, b, exact64(b), 64, signed)
		}
	}
}

// converts: a conversion, its whole number, the bits of the float.
var converts = []struct{ op, a, want int }{
	// f32.convert_i32_s: half-way is a number whose 25th bit is its last; then the numbers beside.
	{178, 0, 0}, {178, 1, one32}, {178, 0xffffffff, one32 | minus32}, {178, 3, 0x40400000},
	{178, 1 << 24, 0x4b800000}, {178, 1<<24 + 1, 0x4b800000}, {178, 1<<24 + 2, 0x4b800001}, {178, 1<<24 + 3, 0x4b800002},
	{178, 1<<32 - 1<<24 - 1, 0xcb800000}, {178, 1<<32 - 1<<24 - 3, 0xcb800002},
	{178, 1<<30 + 63, 0x4e800000}, {178, 1<<30 + 64, 0x4e800000}, {178, 1<<30 + 65, 0x4e800001}, {178, 1<<30 + 192, 0x4e800002},
	{178, 0x7fffffff, 0x4f000000}, {178, 0x7fffffbf, 0x4effffff}, {178, 0x7fffffc0, 0x4f000000},
	{178, 0x80000000, 0xcf000000}, {178, 0x80000001, 0xcf000000}, {178, 0x80000041, 0xceffffff},
	// f32.convert_i32_u.
	{179, 0, 0}, {179, 1, one32}, {179, 1<<24 + 1, 0x4b800000}, {179, 1<<24 + 3, 0x4b800002},
	{179, 0x80000000, 0x4f000000}, {179, 0x80000080, 0x4f000000}, {179, 0x80000081, 0x4f000001}, {179, 0x80000180, 0x4f000002},
	{179, 0xffffff7f, 0x4f7fffff}, {179, 0xffffff80, 0x4f800000}, {179, 0xffffffff, 0x4f800000},
	// f32.convert_i64_s: rounded once (a float of 64 bits would lose the last bit, and be half-way then).
	{180, 0, 0}, {180, 1, one32}, {180, -1, one32 | minus32}, {180, 1<<24 + 1, 0x4b800000}, {180, 1<<24 + 3, 0x4b800002},
	{180, 1<<60 + 1<<36 - 1, 0x5d800000}, {180, 1<<60 + 1<<36, 0x5d800000}, {180, 1<<60 + 1<<36 + 1, 0x5d800001},
	{180, 1<<60 + 3<<36 - 1, 0x5d800001}, {180, 1<<60 + 3<<36, 0x5d800002},
	{180, -1<<60 - 1<<36, 0xdd800000}, {180, -1<<60 - 1<<36 - 1, 0xdd800001}, {180, -1<<60 - 3<<36 + 1, 0xdd800001},
	{180, 1<<63 - 1, 0x5f000000}, {180, 1<<63 - 1<<38 - 1, 0x5effffff}, {180, 1<<63 - 1<<38, 0x5f000000},
	{180, -1 << 63, 0xdf000000}, {180, -1<<63 + 1<<38, 0xdf000000}, {180, -1<<63 + 1<<38 + 1, 0xdeffffff},
	// f32.convert_i64_u.
	{181, 0, 0}, {181, 1, one32}, {181, 1<<24 + 1, 0x4b800000}, {181, 1<<60 + 1<<36 + 1, 0x5d800001},
	{181, -1 << 63, 0x5f000000}, {181, -1<<63 + 1<<39 - 1, 0x5f000000}, {181, -1<<63 + 1<<39, 0x5f000000},
	{181, -1<<63 + 1<<39 + 1, 0x5f000001}, {181, -1<<63 + 3<<39 - 1, 0x5f000001}, {181, -1<<63 + 3<<39, 0x5f000002},
	{181, -1, 0x5f800000}, {181, -1 << 39, 0x5f800000}, {181, -1<<39 - 1, 0x5f7fffff},
	// f64.convert_i32_s and _u: all exact.
	{183, 0, 0}, {183, 1, one64}, {183, 0xffffffff, one64 | minus64}, {183, 0x7fffffff, 0x41dfffffffc00000},
	{183, 0x80000000, 0x41e0000000000000 | minus64}, {183, 1<<24 + 1, 0x4170000010000000},
	{184, 0, 0}, {184, 1, one64}, {184, 0xffffffff, 0x41efffffffe00000}, {184, 0x7fffffff, 0x41dfffffffc00000},
	{184, 0x80000000, 0x41e0000000000000}, {184, 0x80000001, 0x41e0000000200000},
	// f64.convert_i64_s.
	{185, 0, 0}, {185, 1, one64}, {185, -1, one64 | minus64}, {185, 1<<53 - 1, 0x433fffffffffffff},
	{185, 1<<53 + 1, 0x4340000000000000}, {185, 1<<53 + 2, 0x4340000000000001}, {185, 1<<53 + 3, 0x4340000000000002},
	{185, -1<<53 - 1, 0x4340000000000000 | minus64}, {185, -1<<53 - 3, 0x4340000000000002 | minus64},
	{185, 1<<62 + 1<<9 - 1, 0x43d0000000000000}, {185, 1<<62 + 1<<9, 0x43d0000000000000}, {185, 1<<62 + 1<<9 + 1, 0x43d0000000000001},
	{185, 1<<62 + 3<<9, 0x43d0000000000002}, {185, 1<<63 - 1, 0x43e0000000000000}, {185, 1<<63 - 1<<9, 0x43e0000000000000},
	{185, 1<<63 - 1<<9 - 1, 0x43dfffffffffffff}, {185, -1 << 63, 0x43e0000000000000 | minus64},
	{185, -1<<63 + 1<<9, 0x43e0000000000000 | minus64}, {185, -1<<63 + 1<<9 + 1, 0x43dfffffffffffff | minus64},
	// f64.convert_i64_u.
	{186, 0, 0}, {186, 1, one64}, {186, 1<<53 + 1, 0x4340000000000000}, {186, 1<<53 + 3, 0x4340000000000002},
	{186, -1 << 63, 0x43e0000000000000}, {186, -1<<63 + 1<<10 - 1, 0x43e0000000000000}, {186, -1<<63 + 1<<10, 0x43e0000000000000},
	{186, -1<<63 + 1<<10 + 1, 0x43e0000000000001}, {186, -1<<63 + 3<<10, 0x43e0000000000002},
	{186, -1, 0x43f0000000000000}, {186, -1 << 10, 0x43f0000000000000}, {186, -1<<10 - 1, 0x43efffffffffffff},
}

func TestConverts(t *testing.T) {
	for _, c := range converts {
		check(t, c.op, c.a, c.want, api.OK)
	}
}

// rounded32 gives the bits of the float of 32 bits nearest to a value, with this sign if that is a zero.
func rounded32(value *big.Rat, sign int) int {
	f, _ := value.Float32()
	if f == 0 {
		return sign
	}
	return int(math.Float32bits(f))
}

// rounded64 is as rounded32, of 64 bits.
func rounded64(value *big.Rat, sign int) int {
	f, _ := value.Float64()
	if f == 0 {
		return sign
	}
	return int(math.Float64bits(f))
}

// nearHalf gives a number with so many leading bits, which lies half-way between two floats often, or just
// beside.
func (r *row) nearHalf(leading int) int {
	x := r.word() | math.MinInt
	x = int(uint64(x) >> (64 - leading) << (64 - leading))
	return int(uint64(x)>>r.below(64)) + r.below(3) - 1
}

// TestConvertsAreNearest holds conversions of all sizes against whole numbers, rounded once.
func TestConvertsAreNearest(t *testing.T) {
	r := row(2)
	for range 10000 {
		a := []int{r.word(), r.word() >> r.below(64), r.nearHalf(25), r.nearHalf(54)}[r.below(4)]
		values := []*big.Rat{scaled(int(int32(a)), 0), scaled(int(uint32(a)), 0), scaled(a, 0),
			new(big.Rat).SetInt(new(big.Int).SetUint64(uint64(a)))}
		for k, value := range values {
			check(t, 178+k, a, rounded32(value, 0), api.OK)
			check(t, 183+k, a, rounded64(value, 0), api.OK)
		}
	}
}

// demotions: a float of 64 bits without the sign, and the nearest of 32.
var demotions = []struct{ a, want int }{
	{0, 0}, {one64, one32}, {middle64, middle32}, {0x3fb999999999999a, 0x3dcccccd}, {0x3fd5555555555555, 0x3eaaaaab},
	// Half-way, and just beside.
	{0x3ff000000fffffff, one32}, {0x3ff0000010000000, one32}, {0x3ff0000010000001, one32 + 1},
	{0x3ff000002fffffff, one32 + 1}, {0x3ff0000030000000, one32 + 2}, {0x3ff0000030000001, one32 + 2},
	{0x3fefffffefffffff, one32 - 1}, {0x3feffffff0000000, one32},
	// Around the least normal one.
	{0x3810000000000000, normal32}, {0x3810000010000000, normal32}, {0x3810000010000001, normal32 + 1},
	{0x380fffffc0000000, subTop32}, {0x380fffffdfffffff, subTop32}, {0x380fffffe0000000, normal32},
	{0x380fffffe0000001, normal32}, {0x380fffffa0000000, subTop32 - 1}, {0x380fffffa0000001, subTop32},
	{0x3800000000000000, 0x00400000}, {0x3800000020000000, 0x00400000}, {0x3800000020000001, 0x00400001},
	// Around the least one, and half of it.
	{0x36a0000000000000, tiny32}, {0x36a7ffffffffffff, tiny32}, {0x36a8000000000000, 2}, {0x36b0000000000000, 2},
	{0x36b4000000000000, 2}, {0x36b4000000000001, 3}, {0x3690000000000001, tiny32}, {0x3690000000000000, 0},
	{0x368fffffffffffff, 0}, {normal64, 0}, {subTop64, 0}, {tiny64, 0},
	// Beyond the greatest: half a step becomes an infinity, less does not.
	{0x47efffffdfffffff, top32}, {0x47efffffe0000000, top32}, {0x47efffffe0000001, top32}, {0x47efffffefffffff, top32},
	{0x47effffff0000000, inf32}, {0x47effffff0000001, inf32}, {0x47efffffffffffff, inf32}, {0x47f0000000000000, inf32},
	{0x47f0000000000001, inf32}, {0x4800000000000000, inf32}, {0x7fe0000000000000, inf32}, {top64, inf32}, {inf64, inf32},
}

func TestDemote(t *testing.T) {
	for _, c := range demotions {
		check(t, 182, c.a, c.want, api.OK)
		check(t, 182, c.a|minus64, c.want|minus32, api.OK)
	}
	for _, x := range noNumbers64 {
		check(t, 182, x, nan32, api.OK)
	}
}

// TestDemotionsAreNearest holds demotions of all sizes against the float's value, rounded once.
func TestDemotionsAreNearest(t *testing.T) {
	r := row(3)
	for range 20000 {
		a := r.float64(1023 - 155 + r.below(290))
		if r.below(2) == 0 {
			// Few bits: such a float lies half-way between two often.
			a = a&^(1<<(28+r.below(24))-1) + r.below(3) - 1
		}
		sign := int(uint64(a) >> 63 << 31)
		check(t, 182, a, rounded32(exact64(a), sign), api.OK)
	}
}

// TestDemotionsBeyondTheGreatest asks for the infinity with the float's sign, whatever its size from half a step
// beyond the greatest float of 32 bits on, and for the greatest itself below.
func TestDemotionsBeyondTheGreatest(t *testing.T) {
	const half = 0x47effffff0000000
	// A greater bound would hand over to the language what it leaves open, and with most compilers not be seen.
	if got := int(math.Float64bits(demoteEnd)); got != half {
		t.Errorf("P6.1: demotions end at %#x, want %#x", got, half)
	}
	r := row(5)
	for range 4000 {
		beyond := half + r.word()&math.MaxInt%(inf64-half)
		check(t, 182, beyond, inf32, api.OK)
		check(t, 182, beyond|minus64, inf32|minus32, api.OK)
		near := r.below(1 << 28)
		check(t, 182, half+near, inf32, api.OK)
		check(t, 182, (half+near)|minus64, inf32|minus32, api.OK)
		check(t, 182, half-1-near, top32, api.OK)
		check(t, 182, (half-1-near)|minus64, top32|minus32, api.OK)
	}
}

func TestPromote(t *testing.T) {
	for _, c := range []struct{ a, want int }{
		{0, 0}, {one32, one64}, {middle32, middle64}, {one32 + 1, 0x3ff0000020000000},
		{tiny32, 0x36a0000000000000}, {2, 0x36b0000000000000}, {3, 0x36b8000000000000}, {0x00400000, 0x3800000000000000},
		{subTop32, 0x380fffffc0000000}, {normal32, 0x3810000000000000}, {normal32 + 1, 0x3810000020000000},
		{top32, 0x47efffffe0000000}, {inf32, inf64},
	} {
		check(t, 187, c.a, c.want, api.OK)
		check(t, 187, c.a|minus32, c.want|minus64, api.OK)
	}
	for _, x := range noNumbers32 {
		check(t, 187, x, nan64, api.OK)
	}
}

// TestPromotionsAreExact holds the value of a promoted float against its own.
func TestPromotionsAreExact(t *testing.T) {
	r := row(4)
	for range 20000 {
		a := r.float32(r.below(255))
		if r.below(4) == 0 {
			a = r.float32(0) >> r.below(23)
		}
		got, e := Of(187, a)
		if e != api.OK || exact64(got).Cmp(exact32(a)) != 0 {
			t.Errorf("P6.1: Of(187, %#x): %#x, %d", a, uint64(got), e)
		}
		check(t, 182, got, a, api.OK)
	}
}

func TestReinterpret(t *testing.T) {
	all32 := append([]int{0, minus32, tiny32, one32, one32 | minus32, top32, inf32, inf32 | minus32, 0x12345678}, noNumbers32...)
	for _, x := range all32 {
		check(t, 188, x, x, api.OK)
		check(t, 190, x, x, api.OK)
	}
	all64 := append([]int{0, minus64, tiny64, one64, one64 | minus64, top64, inf64, inf64 | minus64, 1 << 32, 0x123456789abcdef0}, noNumbers64...)
	for _, x := range all64 {
		check(t, 189, x, x, api.OK)
		check(t, 191, x, x, api.OK)
		check(t, 188, x, x&0xffffffff, api.OK)
		check(t, 190, x, x&0xffffffff, api.OK)
	}
}

func TestWrongOps(t *testing.T) {
	wrong := func(op int) {
		t.Helper()
		for _, a := range []int{0, 1, -1, one32, one64, nan32, nan64, inf64, minus64} {
			check(t, op, a, 0, api.ErrConvForm)
		}
	}
	for op := -600; op < 900; op++ {
		if op < 167 || op > 191 {
			wrong(op)
		}
	}
	// Numbers whose low bits alone name an operation.
	for op := 167; op <= 191; op++ {
		for _, far := range []int{op + 1<<32, op - 1<<32, op + math.MinInt, -op} {
			wrong(far)
		}
		if got, e := Of(op, 0); got != 0 || e != api.OK {
			t.Errorf("P6.1: Of(%d, 0): %#x, %d; want 0, 0", op, got, e)
		}
	}
	wrong(math.MaxInt)
	wrong(math.MinInt)
}
