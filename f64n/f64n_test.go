package f64n

import (
	"math"
	"math/big"
	"testing"

	"pelorus/api"
)

// The floats that the document names, by their bits.
const (
	minus  = -1 << 63           // the sign
	tiny   = 1                  // the least above 0: 2^-1074
	subTop = 0x000fffffffffffff // the greatest below the normal ones
	normal = 0x0010000000000000 // the least normal one: 2^-1022
	top    = 0x7fefffffffffffff // the greatest
	inf    = 0x7ff0000000000000
	nan    = 0x7ff8000000000000 // the result that is no number
	nanLow = 0x7ff0000000000001 // no number, with other fractions
	nanOdd = 0x7ff4123456789abc
	nanAll = 0x7fffffffffffffff
	half   = 0x3fe0000000000000
	one    = 0x3ff0000000000000
	onePre = 0x3fefffffffffffff // just below 1
	oneUp  = 0x3ff0000000000001 // just above 1
	middle = 0x3ff8000000000000 // 3/2
	two    = 0x4000000000000000
	three  = 0x4008000000000000
	four   = 0x4010000000000000
	five   = 0x4014000000000000
	six    = 0x4018000000000000
	two52  = 0x4330000000000000 // 2^52, from which on floats are whole
	two53  = 0x4340000000000000
)

// edges: floats of every kind without the sign, each rising above the one before.
var edges = []int{0, tiny, 2, subTop, normal, normal + 1, half - 1, half, onePre, one, oneUp, middle, two, three,
	two52 - 1, two52, two52 + 1, two53 - 1, two53, two53 + 1, top - 1, top, inf}

// noNumbers: what is no number, of both signs.
var noNumbers = []int{nan, nanLow, nanOdd, nanAll, nan | minus, nanLow | minus, nanOdd | minus, nanAll | minus}

// ordered gives edges of both signs, each rising above the one before, but for the zeros, of which the
// negative one stands first.
func ordered() []int {
	var all []int
	for k := len(edges) - 1; k >= 0; k-- {
		all = append(all, edges[k]|minus)
	}
	return append(all, edges...)
}

// isZero tells whether bits are a zero's.
func isZero(x int) bool { return x&^minus == 0 }

// checkUn asks for a result.
func checkUn(t *testing.T, op, a, want int) {
	t.Helper()
	if got, e := Un(op, a); got != want || e != api.OK {
		t.Errorf("P5.1: Un(%d, %#x): %#x, %d; want %#x, 0", op, uint64(a), uint64(got), e, uint64(want))
	}
}

// checkBin asks for a result.
func checkBin(t *testing.T, op, a, b, want int) {
	t.Helper()
	if got, e := Bin(op, a, b); got != want || e != api.OK {
		t.Errorf("P5.2: Bin(%d, %#x, %#x): %#x, %d; want %#x, 0", op, uint64(a), uint64(b), uint64(got), e, uint64(want))
	}
}

func TestSigns(t *testing.T) {
	for _, x := range append(ordered(), noNumbers...) {
		checkUn(t, 153, x, x&0x7fffffffffffffff)
		checkUn(t, 154, x, x^minus)
		for _, y := range append(ordered(), noNumbers...) {
			checkBin(t, 166, x, y, x&0x7fffffffffffffff|y&minus)
		}
	}
	for _, c := range []struct{ op, a, want int }{
		{153, 0, 0}, {153, minus, 0}, {153, three | minus, three}, {153, inf | minus, inf},
		{153, nan | minus, nan}, {153, nanLow | minus, nanLow}, {153, nanLow, nanLow},
		{154, 0, minus}, {154, minus, 0}, {154, three, three | minus}, {154, inf, inf | minus},
		{154, nan, nan | minus}, {154, nanLow, nanLow | minus}, {154, nanOdd | minus, nanOdd},
	} {
		checkUn(t, c.op, c.a, c.want)
	}
	for _, c := range []struct{ a, b, want int }{
		{three, minus, three | minus}, {three | minus, 0, three}, {three | minus, nan | minus, three | minus},
		{three, nanLow | minus, three | minus}, {nanLow, one | minus, nanLow | minus}, {nanOdd | minus, one, nanOdd},
		{0, tiny | minus, minus}, {minus, inf, 0},
	} {
		checkBin(t, 166, c.a, c.b, c.want)
	}
}

// wholeCases: of a float its ceil, floor, trunc and nearest.
var wholeCases = []struct {
	a    int
	want [4]int
}{
	{0, [4]int{0, 0, 0, 0}},
	{tiny, [4]int{one, 0, 0, 0}},
	{normal, [4]int{one, 0, 0, 0}},
	{half - 1, [4]int{one, 0, 0, 0}},                                // just below 1/2
	{half, [4]int{one, 0, 0, 0}},                                    // 1/2
	{half + 1, [4]int{one, 0, 0, one}},                              // just above 1/2
	{onePre, [4]int{one, 0, 0, one}},                                // just below 1
	{one, [4]int{one, one, one, one}},                               // 1
	{oneUp, [4]int{two, one, one, one}},                             // just above 1
	{middle - 1, [4]int{two, one, one, one}},                        // just below 3/2
	{middle, [4]int{two, one, one, two}},                            // 3/2
	{0x4004000000000000, [4]int{three, two, two, two}},              // 5/2
	{0x4004000000000001, [4]int{three, two, two, three}},            // just above 5/2
	{0x400c000000000000, [4]int{four, three, three, four}},          // 7/2
	{0x4012000000000000, [4]int{five, four, four, four}},            // 9/2
	{two52 - 3, [4]int{two52 - 2, two52 - 4, two52 - 4, two52 - 4}}, // 2^52 - 3/2
	{two52 - 1, [4]int{two52, two52 - 2, two52 - 2, two52}},         // 2^52 - 1/2
	{two52, [4]int{two52, two52, two52, two52}},
	{two52 + 1, [4]int{two52 + 1, two52 + 1, two52 + 1, two52 + 1}},
	{0x43e0000000000001, [4]int{0x43e0000000000001, 0x43e0000000000001, 0x43e0000000000001, 0x43e0000000000001}}, // beyond 2^63
	{top, [4]int{top, top, top, top}},
	{inf, [4]int{inf, inf, inf, inf}},
}

func TestWhole(t *testing.T) {
	for _, c := range wholeCases {
		for k, want := range c.want {
			checkUn(t, 155+k, c.a, want)
			// Below 0 ceil and floor change places; a zero keeps the sign.
			mirror := [4]int{c.want[1], c.want[0], c.want[2], c.want[3]}[k]
			checkUn(t, 155+k, c.a|minus, mirror|minus)
		}
	}
	for _, x := range noNumbers {
		for op := 155; op <= 159; op++ {
			checkUn(t, op, x, nan)
		}
	}
}

// TestWholeOfQuarters asks for what becomes of quarters, worked out by whole numbers.
func TestWholeOfQuarters(t *testing.T) {
	for k := range 4000 {
		below, above, rest := k/4, (k+3)/4, k%4
		nearest := below
		if rest == 3 || rest == 2 && below%2 == 1 {
			nearest = above
		}
		a := int(math.Float64bits(float64(k) / 4))
		for n, want := range []int{above, below, below, nearest} {
			checkUn(t, 155+n, a, int(math.Float64bits(float64(want))))
		}
		for n, want := range []int{below, above, below, nearest} {
			checkUn(t, 155+n, a|minus, int(math.Float64bits(float64(want)))|minus)
		}
	}
}

func TestSqrt(t *testing.T) {
	for _, c := range []struct{ a, want int }{
		{0, 0}, {minus, minus}, {one, one}, {four, two}, {two, 0x3ff6a09e667f3bcd}, {three, 0x3ffbb67ae8584caa},
		{tiny, 0x1e60000000000000}, {2, 0x1e66a09e667f3bcd}, {normal, 0x2000000000000000}, {subTop, 0x1fffffffffffffff},
		{top, 0x5fefffffffffffff}, {inf, inf}, {onePre, onePre}, {oneUp, one}, {one + 2, oneUp},
		{one | minus, nan}, {tiny | minus, nan}, {top | minus, nan}, {inf | minus, nan},
	} {
		checkUn(t, 159, c.a, c.want)
	}
}

func TestCompare(t *testing.T) {
	all := ordered()
	for i, a := range all {
		for k, b := range all {
			equal := i == k || isZero(a) && isZero(b)
			less, more := i < k && !equal, i > k && !equal
			for op, want := range []bool{equal, !equal, less, more, less || equal, more || equal} {
				checkBin(t, 97+op, a, b, map[bool]int{false: 0, true: 1}[want])
			}
		}
	}
	for _, x := range noNumbers {
		for _, y := range append(ordered(), noNumbers...) {
			for op, want := range []int{0, 1, 0, 0, 0, 0} {
				checkBin(t, 97+op, x, y, want)
				checkBin(t, 97+op, y, x, want)
			}
		}
	}
}

func TestMinAndMax(t *testing.T) {
	all := ordered()
	for i, a := range all {
		for k, b := range all {
			checkBin(t, 164, a, b, all[min(i, k)])
			checkBin(t, 165, a, b, all[max(i, k)])
		}
	}
	for _, x := range noNumbers {
		for _, y := range append(ordered(), noNumbers...) {
			for op := 164; op <= 165; op++ {
				checkBin(t, op, x, y, nan)
				checkBin(t, op, y, x, nan)
			}
		}
	}
}

// arithmetic: an operation, its floats, what comes of them.
var arithmetic = []struct{ op, a, b, want int }{
	{160, one, two, three}, {160, three, one | minus, two}, {160, two, 0, two}, {160, tiny, tiny, 2},
	{160, subTop, tiny, normal}, {160, one, one | minus, 0}, {160, one | minus, one, 0},
	{160, 0, 0, 0}, {160, 0, minus, 0}, {160, minus, 0, 0}, {160, minus, minus, minus},
	// Half-way: to the even one; and just beside.
	{160, two53, one, two53}, {160, two53 + 1, one, two53 + 2}, {160, one, 0x3ca0000000000000, one},
	{160, oneUp, 0x3ca0000000000000, one + 2}, {160, one, 0x3ca0000000000001, oneUp}, {160, one, 0x3c9fffffffffffff, one},
	// Beyond the greatest: half a step rounds to infinity, less does not.
	{160, top, 0x7c90000000000000, inf}, {160, top, 0x7c8fffffffffffff, top}, {160, top, top, inf}, {160, top | minus, top | minus, inf | minus},
	{160, top, one, top}, {160, inf, inf, inf}, {160, inf, top | minus, inf}, {160, inf, inf | minus, nan}, {160, inf | minus, inf, nan},
	{161, three, one, two}, {161, one, three, two | minus}, {161, one, one, 0}, {161, normal, tiny, subTop},
	{161, 0, 0, 0}, {161, 0, minus, 0}, {161, minus, 0, minus}, {161, minus, minus, 0},
	{161, one, 0x3c90000000000000, one}, {161, one, 0x3c90000000000001, onePre}, {161, onePre, 0x3c80000000000000, onePre},
	{161, top | minus, top, inf | minus}, {161, inf, inf, nan}, {161, inf | minus, inf | minus, nan}, {161, inf, inf | minus, inf},
	{162, two, three, six}, {162, two | minus, three, six | minus}, {162, two | minus, two | minus, four},
	{162, 0, one | minus, minus}, {162, minus, one | minus, 0}, {162, minus, 0, minus},
	{162, oneUp, oneUp, one + 2}, {162, oneUp, middle, middle + 2}, {162, one + 3, middle, middle + 4},
	// Below the least normal one, half-way between two, and below the least.
	{162, normal, half, 0x0008000000000000}, {162, normal + 1, half, 0x0008000000000000}, {162, normal + 3, half, 0x0008000000000002},
	{162, tiny, half, 0}, {162, tiny | minus, half, minus}, {162, 3, half, 2}, {162, 5, half, 2},
	{162, tiny, half + 1, tiny}, {162, tiny, tiny, 0}, {162, normal, normal | minus, minus},
	{162, top, two, inf}, {162, top, oneUp, inf}, {162, top | minus, top, inf | minus}, {162, top, one, top},
	{162, inf, 0, nan}, {162, minus, inf, nan}, {162, inf, two | minus, inf | minus}, {162, inf | minus, inf | minus, inf},
	{163, three, two, middle}, {163, one, three, 0x3fd5555555555555}, {163, two, three, 0x3fe5555555555555},
	{163, one, 0x4024000000000000, 0x3fb999999999999a}, {163, one | minus, three, 0x3fd5555555555555 | minus},
	{163, three, 0, inf}, {163, three, minus, inf | minus}, {163, three | minus, 0, inf | minus}, {163, tiny, 0, inf},
	{163, 0, three, 0}, {163, 0, three | minus, minus}, {163, minus, inf, minus}, {163, one, inf, 0}, {163, one, inf | minus, minus},
	{163, tiny, two, 0}, {163, 3, two, 2}, {163, normal, two, 0x0008000000000000}, {163, tiny, three, 0}, {163, 2, three, tiny},
	{163, top, half, inf}, {163, top, onePre, inf}, {163, top, top, one}, {163, inf, 0, inf}, {163, inf, minus, inf | minus},
	{163, 0, 0, nan}, {163, minus, 0, nan}, {163, inf, inf, nan}, {163, inf | minus, inf, nan}, {163, one, top, 0x0004000000000000},
}

func TestArithmetic(t *testing.T) {
	for _, c := range arithmetic {
		checkBin(t, c.op, c.a, c.b, c.want)
	}
	for _, x := range noNumbers {
		for _, y := range append(ordered(), noNumbers...) {
			for op := 160; op <= 163; op++ {
				checkBin(t, op, x, y, nan)
				checkBin(t, op, y, x, nan)
			}
		}
	}
}

// row is a row of numbers that look like any.
type row uint64

// below gives a number from 0 on below n.
func (r *row) below(n int) int {
	*r = *r*6364136223846793005 + 1442695040888963407
	return int(uint64(*r) >> 32 % uint64(n))
}

// float gives a float with this exponent's bits (or the nearest that a number has), not a zero.
func (r *row) float(exponent int) int {
	x := r.below(1<<32)<<20 ^ r.below(1<<32)
	if r.below(2) == 0 {
		// Few bits: their sums and products lie half-way between two floats often.
		x &^= 1<<26 - 1
	}
	x |= min(max(exponent, 0), 2046)<<52 | r.below(2)*minus
	if isZero(x) {
		return r.float(exponent)
	}
	return x
}

// exponents gives those of two floats: of any size, of like size, or such that a product or a quotient lies
// near the least or the greatest float.
func (r *row) exponents() (int, int) {
	one := r.below(2047)
	beside := r.below(121) - 60
	switch r.below(6) {
	case 0:
		return one, one + beside
	case 1:
		return one, 1024 - one + beside
	case 2:
		return one, 1022 + one + beside
	case 3:
		return one, 3069 - one + beside
	case 4:
		return one, one - 1023 + beside
	}
	return one, r.below(2047)
}

// exact gives a float's value.
func exact(x int) *big.Rat {
	return new(big.Rat).SetFloat64(math.Float64frombits(uint64(x)))
}

// rounded gives the bits of the float nearest to a value, with this sign if that is a zero.
func rounded(value *big.Rat, sign int) int {
	f, _ := value.Float64()
	if f == 0 {
		return sign
	}
	return int(math.Float64bits(f))
}

// TestArithmeticIsExactThenRounded holds arithmetic against that of fractions, rounded once.
func TestArithmeticIsExactThenRounded(t *testing.T) {
	r := row(4)
	for range 20000 {
		m, n := r.exponents()
		a, b := r.float(m), r.float(n)
		x, y := exact(a), exact(b)
		sign := (a ^ b) & minus
		checkBin(t, 160, a, b, rounded(new(big.Rat).Add(x, y), 0))
		checkBin(t, 161, a, b, rounded(new(big.Rat).Sub(x, y), 0))
		checkBin(t, 162, a, b, rounded(new(big.Rat).Mul(x, y), sign))
		checkBin(t, 163, a, b, rounded(new(big.Rat).Quo(x, y), sign))
	}
}

// TestQuotientsHalfWay asks for quotients that lie half-way between two floats, which only those below the
// normal ones do.
func TestQuotientsHalfWay(t *testing.T) {
	for odd := 1; odd < 16; odd += 2 {
		even := (odd + 1) / 4 * 2
		for by := 1; by < 300; by++ {
			divisor := int(math.Float64bits(float64(2 * by)))
			checkBin(t, 163, odd*by, divisor, even)
			checkBin(t, 163, odd*by|minus, divisor, even|minus)
		}
	}
}

// TestSqrtIsNearest holds a root's square against those of the middles between it and its neighbours.
func TestSqrtIsNearest(t *testing.T) {
	between := func(x, y int) *big.Rat {
		sum := new(big.Rat).Add(exact(x), exact(y))
		return sum.Mul(sum, big.NewRat(1, 2))
	}
	r := row(5)
	for range 20000 {
		a := r.float(r.below(2047)) &^ minus
		root, e := Un(159, a)
		if e != api.OK || root < 1 || root >= top {
			t.Fatalf("P5.1: Un(159, %#x): %#x, %d", a, root, e)
		}
		low, high := between(root-1, root), between(root, root+1)
		if low.Mul(low, low).Cmp(exact(a)) > 0 || high.Mul(high, high).Cmp(exact(a)) < 0 {
			t.Errorf("P5.1: Un(159, %#x): %#x is not the nearest", a, root)
		}
	}
}

func TestWrongOps(t *testing.T) {
	wrong := func(op int, isUn bool, isBin bool) {
		for _, x := range []int{one, 0, minus, nanLow, inf, -1} {
			if got, e := Un(op, x); !isUn && (got != 0 || e != api.ErrF64Form) {
				t.Errorf("P5.1: Un(%d, %#x): %#x, %d; want 0, %d", op, x, got, e, api.ErrF64Form)
			}
			if got, e := Bin(op, three, x); !isBin && (got != 0 || e != api.ErrF64Form) {
				t.Errorf("P5.2: Bin(%d, 3, %#x): %#x, %d; want 0, %d", op, x, got, e, api.ErrF64Form)
			}
		}
	}
	for op := -300; op < 600; op++ {
		isUn := op >= 153 && op <= 159
		isBin := op >= 97 && op <= 102 || op >= 160 && op <= 166
		wrong(op, isUn, isBin)
	}
	// Numbers whose low bits alone name an operation.
	for op := 97; op <= 166; op++ {
		for _, far := range []int{op + 1<<32, op - 1<<32, op + math.MinInt, -op} {
			wrong(far, false, false)
		}
	}
	wrong(math.MaxInt, false, false)
	wrong(math.MinInt, false, false)
}
