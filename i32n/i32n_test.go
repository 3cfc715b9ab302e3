package i32n

import (
	"math"
	"testing"

	"pelorus/api"
)

// The ends that the document names, as numbers of 32 bits stand.
const (
	all  = 1<<32 - 1 // -1 with sign
	low  = 1 << 31   // -2^31 with sign
	high = 1<<31 - 1 // 2^31 - 1, with sign too
)

// minus gives a negative number as it stands.
func minus(x int) int { return 1<<32 - x }

// disguises are numbers beside x with the same low 32 bits: beyond 32 bits, and negative ones.
func disguises(x int) []int {
	return []int{x, x + 1<<32, x - 1<<32, x + 5<<40, x + math.MinInt}
}

// unCase: what an operation makes of one number.
type unCase struct{ op, a, want int }

// binCase: what an operation makes of two numbers, or the error.
type binCase struct {
	op, a, b, want int
	code           api.Errno
}

// checkUn asks for a case by each number that stands for its own.
func checkUn(t *testing.T, c unCase) {
	t.Helper()
	for _, a := range disguises(c.a) {
		if got, e := Un(c.op, a); got != c.want || e != api.OK {
			t.Errorf("P2.1: Un(%d, %d): %d, %d; want %d, 0", c.op, a, got, e, c.want)
		}
	}
}

// checkBin asks for a case by each pair of numbers that stand for its own.
func checkBin(t *testing.T, c binCase) {
	t.Helper()
	for _, a := range disguises(c.a) {
		for _, b := range disguises(c.b) {
			if got, e := Bin(c.op, a, b); got != c.want || e != c.code {
				t.Errorf("P2.2: Bin(%d, %d, %d): %d, %d; want %d, %d", c.op, a, b, got, e, c.want, c.code)
			}
		}
	}
}

func TestUn(t *testing.T) {
	for _, c := range []unCase{
		{69, 0, 1}, {69, 1, 0}, {69, 7, 0}, {69, low, 0}, {69, all, 0},
		{103, 0, 32}, {103, 1, 31}, {103, 40, 26}, {103, high, 1}, {103, low, 0}, {103, all, 0},
		{104, 0, 32}, {104, 1, 0}, {104, 40, 3}, {104, high, 0}, {104, low, 31}, {104, all, 0},
		{105, 0, 0}, {105, 1, 1}, {105, 40, 2}, {105, high, 31}, {105, low, 1}, {105, all, 32},
	} {
		checkUn(t, c)
	}
}

func TestCompare(t *testing.T) {
	// Of each pair: eq, ne, lt_s, lt_u, gt_s, gt_u, le_s, le_u, ge_s, ge_u.
	for _, c := range []struct {
		a, b int
		want [10]int
	}{
		{0, 0, [10]int{1, 0, 0, 0, 0, 0, 1, 1, 1, 1}},
		{7, 7, [10]int{1, 0, 0, 0, 0, 0, 1, 1, 1, 1}},
		{low, low, [10]int{1, 0, 0, 0, 0, 0, 1, 1, 1, 1}},
		{all, all, [10]int{1, 0, 0, 0, 0, 0, 1, 1, 1, 1}},
		{3, 9, [10]int{0, 1, 1, 1, 0, 0, 1, 1, 0, 0}},
		{9, 3, [10]int{0, 1, 0, 0, 1, 1, 0, 0, 1, 1}},
		{all, 0, [10]int{0, 1, 1, 0, 0, 1, 1, 0, 0, 1}},
		{0, all, [10]int{0, 1, 0, 1, 1, 0, 0, 1, 1, 0}},
		{low, high, [10]int{0, 1, 1, 0, 0, 1, 1, 0, 0, 1}},
		{high, low, [10]int{0, 1, 0, 1, 1, 0, 0, 1, 1, 0}},
		{low, all, [10]int{0, 1, 1, 1, 0, 0, 1, 1, 0, 0}},
		{all, low, [10]int{0, 1, 0, 0, 1, 1, 0, 0, 1, 1}},
	} {
		for k, want := range c.want {
			checkBin(t, binCase{70 + k, c.a, c.b, want, api.OK})
		}
	}
}

func TestArithmetic(t *testing.T) {
	for _, c := range []binCase{
		{106, 2, 3, 5, api.OK}, {106, all, 1, 0, api.OK}, {106, high, 1, low, api.OK}, {106, low, low, 0, api.OK},
		{107, 5, 3, 2, api.OK}, {107, 3, 5, minus(2), api.OK}, {107, 0, 1, all, api.OK}, {107, low, 1, high, api.OK},
		{108, 6, 7, 42, api.OK}, {108, all, all, 1, api.OK}, {108, 65536, 65536, 0, api.OK},
		{108, 0x12345678, 0x9ABCDEF0, 0x242D2080, api.OK}, {108, low, 3, low, api.OK}, {108, minus(6), 7, minus(42), api.OK},
		{113, 12, 10, 8, api.OK}, {113, all, low, low, api.OK}, {113, 5, 2, 0, api.OK},
		{114, 12, 10, 14, api.OK}, {114, low, high, all, api.OK}, {114, 0, 0, 0, api.OK},
		{115, 12, 10, 6, api.OK}, {115, all, low, high, api.OK}, {115, all, all, 0, api.OK},
	} {
		checkBin(t, c)
	}
}

func TestDivide(t *testing.T) {
	for _, c := range []binCase{
		{109, 7, 2, 3, api.OK}, {109, minus(7), 2, minus(3), api.OK}, {109, 7, minus(2), minus(3), api.OK},
		{109, minus(7), minus(2), 3, api.OK}, {109, low, 1, low, api.OK}, {109, low, 2, minus(1 << 30), api.OK},
		{109, low, low, 1, api.OK}, {109, high, all, minus(high), api.OK}, {109, minus(high), all, high, api.OK},
		{109, 0, all, 0, api.OK}, {109, low, all, 0, api.ErrI32Over},
		{109, 7, 0, 0, api.ErrI32Zero}, {109, 0, 0, 0, api.ErrI32Zero}, {109, low, 0, 0, api.ErrI32Zero},
		{110, 7, 2, 3, api.OK}, {110, minus(7), 2, 0x7FFFFFFC, api.OK}, {110, low, all, 0, api.OK},
		{110, all, low, 1, api.OK}, {110, all, all, 1, api.OK}, {110, all, 1, all, api.OK},
		{110, 7, 0, 0, api.ErrI32Zero}, {110, 0, 0, 0, api.ErrI32Zero}, {110, low, 0, 0, api.ErrI32Zero},
		{111, 7, 2, 1, api.OK}, {111, minus(7), 2, minus(1), api.OK}, {111, 7, minus(2), 1, api.OK},
		{111, minus(7), minus(2), minus(1), api.OK}, {111, low, all, 0, api.OK}, {111, low, 3, minus(2), api.OK},
		{111, low, low, 0, api.OK}, {111, high, low, high, api.OK}, {111, 6, 3, 0, api.OK},
		{111, 7, 0, 0, api.ErrI32Zero}, {111, 0, 0, 0, api.ErrI32Zero}, {111, low, 0, 0, api.ErrI32Zero},
		{112, 7, 2, 1, api.OK}, {112, minus(7), 2, 1, api.OK}, {112, low, all, low, api.OK},
		{112, all, low, high, api.OK}, {112, all, 10, 5, api.OK}, {112, 6, 3, 0, api.OK},
		{112, 7, 0, 0, api.ErrI32Zero}, {112, 0, 0, 0, api.ErrI32Zero}, {112, low, 0, 0, api.ErrI32Zero},
	} {
		checkBin(t, c)
	}
}

func TestShift(t *testing.T) {
	const x = 0x90ABCDEF
	for _, c := range []struct{ by, shl, shrS, shrU, rotl, rotr int }{
		{0, x, x, x, x, x},
		{1, 0x21579BDE, 0xC855E6F7, 0x4855E6F7, 0x21579BDF, 0xC855E6F7},
		{4, 0x0ABCDEF0, 0xF90ABCDE, 0x090ABCDE, 0x0ABCDEF9, 0xF90ABCDE},
		{31, 0x80000000, 0xFFFFFFFF, 1, 0xC855E6F7, 0x21579BDF},
	} {
		// As many places, and those more by whole widths: the number of places is one of 32 bits.
		for _, by := range []int{c.by, c.by + 32, c.by + 64, c.by + 1<<31, 1<<32 - 32 + c.by} {
			for k, want := range []int{c.shl, c.shrS, c.shrU, c.rotl, c.rotr} {
				checkBin(t, binCase{116 + k, x, by, want, api.OK})
			}
		}
	}
	for _, c := range []binCase{
		{116, 1, 31, low, api.OK}, {116, 3, 31, low, api.OK}, {116, 1, minus(1), low, api.OK},
		{117, high, 30, 1, api.OK}, {117, low, 31, all, api.OK}, {117, low, minus(1), all, api.OK},
		{118, low, 31, 1, api.OK}, {118, all, minus(1), 1, api.OK},
		{119, low, 1, 1, api.OK}, {119, 1, minus(1), low, api.OK},
		{120, 1, 1, low, api.OK}, {120, low, minus(1), 1, api.OK},
	} {
		checkBin(t, c)
	}
}

func TestWrongOps(t *testing.T) {
	wrong := func(op int, isUn bool, isBin bool) {
		for _, b := range []int{7, 0, -1} {
			if got, e := Un(op, b); !isUn && (got != 0 || e != api.ErrI32Form) {
				t.Errorf("P2.1: Un(%d, %d): %d, %d; want 0, %d", op, b, got, e, api.ErrI32Form)
			}
			if got, e := Bin(op, low, b); !isBin && (got != 0 || e != api.ErrI32Form) {
				t.Errorf("P2.2: Bin(%d, 2^31, %d): %d, %d; want 0, %d", op, b, got, e, api.ErrI32Form)
			}
		}
	}
	for op := -300; op < 600; op++ {
		isUn := op == 69 || op >= 103 && op <= 105
		isBin := op >= 70 && op <= 79 || op >= 106 && op <= 120
		wrong(op, isUn, isBin)
	}
	// Numbers whose low bits alone name an operation.
	for op := 69; op <= 120; op++ {
		for _, far := range []int{op + 1<<32, op - 1<<32, op + math.MinInt, -op} {
			wrong(far, false, false)
		}
	}
	wrong(math.MaxInt, false, false)
	wrong(math.MinInt, false, false)
}
