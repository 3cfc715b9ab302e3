package f32n

import (
	"math"
	"math/big"
	"testing"

	"pelorus/api"
)

// The floats that the document names, by their bits.
const (
	minus  = 1 << 31    // the sign
	tiny   = 1          // the least above 0: 2^-149
	subTop = 0x007fffff // the greatest below the normal ones
	normal = 0x00800000 // the least normal one: 2^-126
	top    = 0x7f7fffff // the greatest
	inf    = 0x7f800000
	nan    = 0x7fc00000 // the result that is no number
	nanLow = 0x7f800001 // no number, with other fractions
	nanOdd = 0x7fa12345
	nanAll = 0x7fffffff
	half   = 0x3f000000
	one    = 0x3f800000
	two    = 0x40000000
	three  = 0x40400000
	four   = 0x40800000
)

// edges: floats of every kind without the sign, each rising above the one before.
var edges = []int{0, tiny, 2, subTop, normal, normal + 1, 0x3effffff, half, 0x3f7fffff, one, 0x3f800001, 0x3fc00000, two, three,
	0x4affffff, 0x4b000000, 0x4b000001, 0x4b7fffff, 0x4b800000, 0x4b800001, top - 1, top, inf}

// noNumbers: what is no number, of both signs.
var noNumbers = []int{nan, nanLow, nanOdd, nanAll, nan | minus, nanLow | minus, nanOdd | minus, nanAll | minus}

// ordered gives edges of both signs, each rising above the one before, but for the zeros, of which the
// negative one stands first.
func ordered() []int {
	var all []int
	for k := len(edges) - 1; k >= 0; k-- {
		all = append(all, edges[k]|minus)
	}
	return append(all, edges...)
}

// isZero tells whether bits are a zero's.
func isZero(x int) bool { return x&^minus == 0 }

// above gives numbers that have the same low 32 bits as x, x itself first.
func above(x int) []int {
	return []int{x, x + 1<<32, x - 1<<32, x ^ math.MinInt, x | 0x5a5a5a5a<<32}
}

// checkUn asks for a result, also of numbers with the same low 32 bits.
func checkUn(t *testing.T, op, a, want int) {
	t.Helper()
	for _, a := range above(a) {
		if got, e := Un(op, a); got != want || e != api.OK {
			t.Errorf("P4.1: Un(%d, %#x): %#x, %d; want %#x, 0", op, a, got, e, want)
		}
	}
}

// checkBin asks for a result, also of numbers with the same low 32 bits.
func checkBin(t *testing.T, op, a, b, want int) {
	t.Helper()
	for k, a := range above(a) {
		for _, b := range []int{b, above(b)[k]} {
			if got, e := Bin(op, a, b); got != want || e != api.OK {
				t.Errorf("P4.2: Bin(%d, %#x, %#x): %#x, %d; want %#x, 0", op, a, b, got, e, want)
			}
		}
	}
}

func TestSigns(t *testing.T) {
	for _, x := range append(ordered(), noNumbers...) {
		checkUn(t, 139, x, x&0x7fffffff)
		checkUn(t, 140, x, x^minus)
		for _, y := range append(ordered(), noNumbers...) {
			checkBin(t, 152, x, y, x&0x7fffffff|y&minus)
		}
	}
	for _, c := range []struct{ op, a, want int }{
		{139, 0, 0}, {139, minus, 0}, {139, three | minus, three}, {139, inf | minus, inf},
		{139, nan | minus, nan}, {139, nanLow | minus, nanLow}, {139, nanLow, nanLow},
		{140, 0, minus}, {140, minus, 0}, {140, three, three | minus}, {140, inf, inf | minus},
		{140, nan, nan | minus}, {140, nanLow, nanLow | minus}, {140, nanOdd | minus, nanOdd},
	} {
		checkUn(t, c.op, c.a, c.want)
	}
	for _, c := range []struct{ a, b, want int }{
		{three, minus, three | minus}, {three | minus, 0, three}, {three | minus, nan | minus, three | minus},
		{three, nanLow | minus, three | minus}, {nanLow, one | minus, nanLow | minus}, {nanOdd | minus, one, nanOdd},
		{0, tiny | minus, minus}, {minus, inf, 0},
	} {
		checkBin(t, 152, c.a, c.b, c.want)
	}
}

// wholeCases: of a float its ceil, floor, trunc and nearest.
var wholeCases = []struct {
	a    int
	want [4]int
}{
	{0, [4]int{0, 0, 0, 0}},
	{tiny, [4]int{one, 0, 0, 0}},
	{normal, [4]int{one, 0, 0, 0}},
	{0x3effffff, [4]int{one, 0, 0, 0}},                                   // just below 1/2
	{half, [4]int{one, 0, 0, 0}},                                         // 1/2
	{0x3f000001, [4]int{one, 0, 0, one}},                                 // just above 1/2
	{0x3f7fffff, [4]int{one, 0, 0, one}},                                 // just below 1
	{one, [4]int{one, one, one, one}},                                    // 1
	{0x3f800001, [4]int{two, one, one, one}},                             // just above 1
	{0x3fbfffff, [4]int{two, one, one, one}},                             // just below 3/2
	{0x3fc00000, [4]int{two, one, one, two}},                             // 3/2
	{0x40200000, [4]int{three, two, two, two}},                           // 5/2
	{0x40200001, [4]int{three, two, two, three}},                         // just above 5/2
	{0x40600000, [4]int{four, three, three, four}},                       // 7/2
	{0x40900000, [4]int{0x40a00000, four, four, four}},                   // 9/2
	{0x4afffffd, [4]int{0x4afffffe, 0x4afffffc, 0x4afffffc, 0x4afffffc}}, // 2^23 - 3/2
	{0x4affffff, [4]int{0x4b000000, 0x4afffffe, 0x4afffffe, 0x4b000000}}, // 2^23 - 1/2
	{0x4b000000, [4]int{0x4b000000, 0x4b000000, 0x4b000000, 0x4b000000}},
	{0x4b000001, [4]int{0x4b000001, 0x4b000001, 0x4b000001, 0x4b000001}},
	{0x5f000001, [4]int{0x5f000001, 0x5f000001, 0x5f000001, 0x5f000001}}, // beyond 2^63
	{top, [4]int{top, top, top, top}},
	{inf, [4]int{inf, inf, inf, inf}},
}

func TestWhole(t *testing.T) {
	for _, c := range wholeCases {
		for k, want := range c.want {
			checkUn(t, 141+k, c.a, want)
			// Below 0 ceil and floor change places; a zero keeps the sign.
			mirror := [4]int{c.want[1], c.want[0], c.want[2], c.want[3]}[k]
			checkUn(t, 141+k, c.a|minus, mirror|minus)
		}
	}
	for _, x := range noNumbers {
		for op := 141; op <= 145; op++ {
			checkUn(t, op, x, nan)
		}
	}
}

func TestSqrt(t *testing.T) {
	for _, c := range []struct{ a, want int }{
		{0, 0}, {minus, minus}, {one, one}, {four, two}, {two, 0x3fb504f3}, {three, 0x3fddb3d7},
		{tiny, 0x1a3504f3}, {2, 0x1a800000}, {normal, 0x20000000}, {subTop, 0x1fffffff},
		{top, 0x5f7fffff}, {inf, inf}, {0x3f7fffff, 0x3f7fffff}, {0x3f800001, one}, {0x3f800002, 0x3f800001},
		{one | minus, nan}, {tiny | minus, nan}, {top | minus, nan}, {inf | minus, nan},
	} {
		checkUn(t, 145, c.a, c.want)
	}
}

func TestCompare(t *testing.T) {
	all := ordered()
	for i, a := range all {
		for k, b := range all {
			equal := i == k || isZero(a) && isZero(b)
			less, more := i < k && !equal, i > k && !equal
			for op, want := range []bool{equal, !equal, less, more, less || equal, more || equal} {
				checkBin(t, 91+op, a, b, map[bool]int{false: 0, true: 1}[want])
			}
		}
	}
	for _, x := range noNumbers {
		for _, y := range append(ordered(), noNumbers...) {
			for op, want := range []int{0, 1, 0, 0, 0, 0} {
				checkBin(t, 91+op, x, y, want)
				checkBin(t, 91+op, y, x, want)
			}
		}
	}
}

func TestMinAndMax(t *testing.T) {
	all := ordered()
	for i, a := range all {
		for k, b := range all {
			checkBin(t, 150, a, b, all[min(i, k)])
			checkBin(t, 151, a, b, all[max(i, k)])
		}
	}
	for _, x := range noNumbers {
		for _, y := range append(ordered(), noNumbers...) {
			for op := 150; op <= 151; op++ {
				checkBin(t, op, x, y, nan)
				checkBin(t, op, y, x, nan)
			}
		}
	}
}

// arithmetic: an operation, its floats, what comes of them.
var arithmetic = []struct{ op, a, b, want int }{
	{146, one, two, three}, {146, three, one | minus, two}, {146, two, 0, two}, {146, tiny, tiny, 2},
	{146, subTop, tiny, normal}, {146, one, one | minus, 0}, {146, one | minus, one, 0},
	{146, 0, 0, 0}, {146, 0, minus, 0}, {146, minus, 0, 0}, {146, minus, minus, minus},
	// Half-way: to the even one; and just beside.
	{146, 0x4b800000, one, 0x4b800000}, {146, 0x4b800001, one, 0x4b800002}, {146, one, 0x33800000, one},
	{146, 0x3f800001, 0x33800000, 0x3f800002}, {146, one, 0x33800001, 0x3f800001}, {146, one, 0x337fffff, one},
	// Beyond the greatest: half a step rounds to infinity, less does not.
	{146, top, 0x73000000, inf}, {146, top, 0x72ffffff, top}, {146, top, top, inf}, {146, top | minus, top | minus, inf | minus},
	{146, top, one, top}, {146, inf, inf, inf}, {146, inf, top | minus, inf}, {146, inf, inf | minus, nan}, {146, inf | minus, inf, nan},
	{147, three, one, two}, {147, one, three, two | minus}, {147, one, one, 0}, {147, normal, tiny, subTop},
	{147, 0, 0, 0}, {147, 0, minus, 0}, {147, minus, 0, minus}, {147, minus, minus, 0},
	{147, one, 0x33000000, one}, {147, one, 0x33000001, 0x3f7fffff}, {147, 0x3f7fffff, 0x32800000, 0x3f7fffff},
	{147, top | minus, top, inf | minus}, {147, inf, inf, nan}, {147, inf | minus, inf | minus, nan}, {147, inf, inf | minus, inf},
	{148, two, three, 0x40c00000}, {148, two | minus, three, 0xc0c00000}, {148, two | minus, two | minus, four},
	{148, 0, one | minus, minus}, {148, minus, one | minus, 0}, {148, minus, 0, minus},
	{148, 0x3f800001, 0x3f800001, 0x3f800002}, {148, 0x3f800001, 0x3fc00000, 0x3fc00002}, {148, 0x3f800003, 0x3fc00000, 0x3fc00004},
	// Below the least normal one, half-way between two, and below the least.
	{148, normal, half, 0x00400000}, {148, 0x00800001, half, 0x00400000}, {148, 0x00800003, half, 0x00400002},
	{148, tiny, half, 0}, {148, tiny | minus, half, minus}, {148, 3, half, 2}, {148, 5, half, 2},
	{148, tiny, 0x3f000001, tiny}, {148, tiny, tiny, 0}, {148, normal, normal | minus, minus},
	{148, top, two, inf}, {148, top, 0x3f800001, inf}, {148, top | minus, top, inf | minus}, {148, top, one, top},
	{148, inf, 0, nan}, {148, minus, inf, nan}, {148, inf, two | minus, inf | minus}, {148, inf | minus, inf | minus, inf},
	{149, three, two, 0x3fc00000}, {149, one, three, 0x3eaaaaab}, {149, two, three, 0x3f2aaaab}, {149, one | minus, three, 0xbeaaaaab},
	{149, three, 0, inf}, {149, three, minus, inf | minus}, {149, three | minus, 0, inf | minus}, {149, tiny, 0, inf},
	{149, 0, three, 0}, {149, 0, three | minus, minus}, {149, minus, inf, minus}, {149, one, inf, 0}, {149, one, inf | minus, minus},
	{149, tiny, two, 0}, {149, 3, two, 2}, {149, normal, two, 0x00400000}, {149, tiny, three, 0}, {149, 2, three, tiny},
	{149, top, half, inf}, {149, top, 0x3f7fffff, inf}, {149, top, top, one}, {149, inf, 0, inf}, {149, inf, minus, inf | minus},
	{149, 0, 0, nan}, {149, minus, 0, nan}, {149, inf, inf, nan}, {149, inf | minus, inf, nan}, {149, one, top, 0x00200000},
}

func TestArithmetic(t *testing.T) {
	for _, c := range arithmetic {
		checkBin(t, c.op, c.a, c.b, c.want)
	}
	for _, x := range noNumbers {
		for _, y := range append(ordered(), noNumbers...) {
			for op := 146; op <= 149; op++ {
				checkBin(t, op, x, y, nan)
				checkBin(t, op, y, x, nan)
			}
		}
	}
}

// row is a row of numbers that look like any.
type row uint64

func (r *row) next() int {
	*r = *r*6364136223846793005 + 1442695040888963407
	return int(uint64(*r) >> 32)
}

// finite gives a float above or below 0 that is a number, by its bits.
func (r *row) finite() int {
	x := r.next()
	if r.next()%4 == 0 {
		x = edges[1+r.next()%(len(edges)-2)] ^ x&minus
	}
	if isZero(x) || x&inf == inf {
		return r.finite()
	}
	return x
}

// exact gives a float's value.
func exact(x int) *big.Rat {
	return new(big.Rat).SetFloat64(float64(math.Float32frombits(uint32(x))))
}

// rounded gives the bits of the float nearest to a value, with this sign if that is a zero.
func rounded(value *big.Rat, sign int) int {
	f, _ := value.Float32()
	if f == 0 {
		return sign
	}
	return int(math.Float32bits(f))
}

// TestArithmeticIsExactThenRounded holds arithmetic against that of fractions, rounded once.
func TestArithmeticIsExactThenRounded(t *testing.T) {
	r := row(4)
	for range 20000 {
		a := r.finite()
		b := r.finite()
		if r.next()%2 == 0 {
			// Floats of like size, where sums have bits to round.
			b = min(max(a&^minus+(r.next()%31-15)<<23, tiny), top) ^ r.next()&0x807fffff
		}
		if isZero(b) || b&inf == inf {
			continue
		}
		x, y := exact(a), exact(b)
		sign := (a ^ b) & minus
		checkExact(t, 146, a, b, rounded(new(big.Rat).Add(x, y), 0))
		checkExact(t, 147, a, b, rounded(new(big.Rat).Sub(x, y), 0))
		checkExact(t, 148, a, b, rounded(new(big.Rat).Mul(x, y), sign))
		checkExact(t, 149, a, b, rounded(new(big.Rat).Quo(x, y), sign))
	}
}

func checkExact(t *testing.T, op, a, b, want int) {
	t.Helper()
	if got, e := Bin(op, a, b); got != want || e != api.OK {
		t.Errorf("P4.2: Bin(%d, %#x, %#x): %#x, %d; want %#x, 0", op, a, b, got, e, want)
	}
}

// TestQuotientsHalfWay asks for quotients that lie half-way between two floats, which only those below the
// normal ones do.
func TestQuotientsHalfWay(t *testing.T) {
	for odd := 1; odd < 16; odd += 2 {
		even := (odd + 1) / 4 * 2
		for by := 1; by < 300; by++ {
			divisor := int(math.Float32bits(float32(2 * by)))
			checkExact(t, 149, odd*by, divisor, even)
			checkExact(t, 149, odd*by|minus, divisor, even|minus)
		}
	}
}

// TestSqrtIsNearest holds a root's square against those of the middles between it and its neighbours.
func TestSqrtIsNearest(t *testing.T) {
	middle := func(x, y int) *big.Rat {
		sum := new(big.Rat).Add(exact(x), exact(y))
		return sum.Mul(sum, big.NewRat(1, 2))
	}
	r := row(5)
	for range 20000 {
		a := r.finite() &^ minus
		root, e := Un(145, a)
		if e != api.OK || root < 1 || root >= top {
			t.Fatalf("P4.1: Un(145, %#x): %#x, %d", a, root, e)
		}
		low, high := middle(root-1, root), middle(root, root+1)
		if low.Mul(low, low).Cmp(exact(a)) > 0 || high.Mul(high, high).Cmp(exact(a)) < 0 {
			t.Errorf("P4.1: Un(145, %#x): %#x is not the nearest", a, root)
		}
	}
}

func TestWrongOps(t *testing.T) {
	wrong := func(op int, isUn bool, isBin bool) {
		for _, x := range []int{one, 0, minus, nanLow, inf, -1} {
			if got, e := Un(op, x); !isUn && (got != 0 || e != api.ErrF32Form) {
				t.Errorf("P4.1: Un(%d, %#x): %#x, %d; want 0, %d", op, x, got, e, api.ErrF32Form)
			}
			if got, e := Bin(op, three, x); !isBin && (got != 0 || e != api.ErrF32Form) {
				t.Errorf("P4.2: Bin(%d, 3, %#x): %#x, %d; want 0, %d", op, x, got, e, api.ErrF32Form)
			}
		}
	}
	for op := -300; op < 600; op++ {
		isUn := op >= 139 && op <= 145
		isBin := op >= 91 && op <= 96 || op >= 146 && op <= 152
		wrong(op, isUn, isBin)
	}
	// Numbers whose low bits alone name an operation.
	for op := 91; op <= 152; op++ {
		for _, far := range []int{op + 1<<32, op - 1<<32, op + math.MinInt, -op} {
			wrong(far, false, false)
		}
	}
	wrong(math.MaxInt, false, false)
	wrong(math.MinInt, false, false)
}
