package i64n

import (
	"math"
	"testing"

	"pelorus/api"
)

// The ends that the document names.
const (
	all  = -1            // 2^64 - 1 without sign
	low  = math.MinInt64 // 2^63 without sign
	high = math.MaxInt64
)

// unCase: what an operation makes of one number.
type unCase struct{ op, a, want int }

// binCase: what an operation makes of two numbers, or the error.
type binCase struct {
	op, a, b, want int
	code           api.Errno
}

// checkBin asks for a case.
func checkBin(t *testing.T, c binCase) {
	t.Helper()
	if got, e := Bin(c.op, c.a, c.b); got != c.want || e != c.code {
		t.Errorf("P3.2: Bin(%d, %d, %d): %d, %d; want %d, %d", c.op, c.a, c.b, got, e, c.want, c.code)
	}
}

// bitsOf gives the number that has these bits.
func bitsOf(x uint64) int { return int(x) }

func TestUn(t *testing.T) {
	for _, c := range []unCase{
		{80, 0, 1}, {80, 1, 0}, {80, 7, 0}, {80, 1 << 32, 0}, {80, high, 0}, {80, low, 0}, {80, all, 0},
		{121, 0, 64}, {121, 1, 63}, {121, 40, 58}, {121, 1 << 32, 31}, {121, high, 1}, {121, low, 0}, {121, all, 0},
		{122, 0, 64}, {122, 1, 0}, {122, 40, 3}, {122, 1 << 32, 32}, {122, high, 0}, {122, low, 63}, {122, all, 0},
		{123, 0, 0}, {123, 1, 1}, {123, 40, 2}, {123, 5 << 32, 2}, {123, high, 63}, {123, low, 1}, {123, all, 64},
		{123, -2, 63}, {122, -8, 3}, {121, -8, 0},
	} {
		if got, e := Un(c.op, c.a); got != c.want || e != api.OK {
			t.Errorf("P3.1: Un(%d, %d): %d, %d; want %d, 0", c.op, c.a, got, e, c.want)
		}
	}
}

func TestCompare(t *testing.T) {
	// Of each pair: eq, ne, lt_s, lt_u, gt_s, gt_u, le_s, le_u, ge_s, ge_u.
	for _, c := range []struct {
		a, b int
		want [10]int
	}{
		{0, 0, [10]int{1, 0, 0, 0, 0, 0, 1, 1, 1, 1}},
		{7, 7, [10]int{1, 0, 0, 0, 0, 0, 1, 1, 1, 1}},
		{low, low, [10]int{1, 0, 0, 0, 0, 0, 1, 1, 1, 1}},
		{high, high, [10]int{1, 0, 0, 0, 0, 0, 1, 1, 1, 1}},
		{all, all, [10]int{1, 0, 0, 0, 0, 0, 1, 1, 1, 1}},
		{3, 9, [10]int{0, 1, 1, 1, 0, 0, 1, 1, 0, 0}},
		{9, 3, [10]int{0, 1, 0, 0, 1, 1, 0, 0, 1, 1}},
		{7, 7 + 1<<32, [10]int{0, 1, 1, 1, 0, 0, 1, 1, 0, 0}},
		{all, 0, [10]int{0, 1, 1, 0, 0, 1, 1, 0, 0, 1}},
		{0, all, [10]int{0, 1, 0, 1, 1, 0, 0, 1, 1, 0}},
		{low, high, [10]int{0, 1, 1, 0, 0, 1, 1, 0, 0, 1}},
		{high, low, [10]int{0, 1, 0, 1, 1, 0, 0, 1, 1, 0}},
		{low, all, [10]int{0, 1, 1, 1, 0, 0, 1, 1, 0, 0}},
		{all, low, [10]int{0, 1, 0, 0, 1, 1, 0, 0, 1, 1}},
	} {
		for k, want := range c.want {
			checkBin(t, binCase{81 + k, c.a, c.b, want, api.OK})
		}
	}
}

func TestArithmetic(t *testing.T) {
	for _, c := range []binCase{
		{124, 2, 3, 5, api.OK}, {124, all, 1, 0, api.OK}, {124, high, 1, low, api.OK}, {124, low, low, 0, api.OK},
		{124, 1<<32 - 1, 1, 1 << 32, api.OK}, {124, -5, 3, -2, api.OK},
		{125, 5, 3, 2, api.OK}, {125, 3, 5, -2, api.OK}, {125, 0, 1, all, api.OK}, {125, low, 1, high, api.OK},
		{125, 0, low, low, api.OK}, {125, high, all, low, api.OK},
		{126, 6, 7, 42, api.OK}, {126, all, all, 1, api.OK}, {126, 1 << 32, 1 << 32, 0, api.OK},
		{126, 0x123456789ABCDEF, 0x1122334455667788, 0x0C5E365068397FF8, api.OK},
		{126, low, 3, low, api.OK}, {126, low, all, low, api.OK}, {126, -6, 7, -42, api.OK}, {126, high, high, 1, api.OK},
		{131, 12, 10, 8, api.OK}, {131, all, low, low, api.OK}, {131, 5, 2, 0, api.OK}, {131, low, high, 0, api.OK},
		{132, 12, 10, 14, api.OK}, {132, low, high, all, api.OK}, {132, 0, 0, 0, api.OK}, {132, 5 << 32, 2, 5<<32 + 2, api.OK},
		{133, 12, 10, 6, api.OK}, {133, all, low, high, api.OK}, {133, all, all, 0, api.OK}, {133, -4, 1, -3, api.OK},
	} {
		checkBin(t, c)
	}
}

func TestDivide(t *testing.T) {
	for _, c := range []binCase{
		{127, 7, 2, 3, api.OK}, {127, -7, 2, -3, api.OK}, {127, 7, -2, -3, api.OK}, {127, -7, -2, 3, api.OK},
		{127, low, 1, low, api.OK}, {127, low, 2, -1 << 62, api.OK}, {127, low, low, 1, api.OK},
		{127, high, all, -high, api.OK}, {127, -high, all, high, api.OK}, {127, high, low, 0, api.OK},
		{127, 0, all, 0, api.OK}, {127, low, all, 0, api.ErrI64Over},
		// The pair that is ruled out of numbers of 32 bits is none here.
		{127, -1 << 31, -1, 1 << 31, api.OK}, {127, 1 << 31, 1<<32 - 1, 0, api.OK},
		{127, 7, 0, 0, api.ErrI64Zero}, {127, 0, 0, 0, api.ErrI64Zero}, {127, low, 0, 0, api.ErrI64Zero},
		{127, 7, 1 << 32, 0, api.OK},
		{128, 7, 2, 3, api.OK}, {128, -7, 2, high - 3, api.OK}, {128, low, all, 0, api.OK}, {128, high, all, 0, api.OK},
		{128, all, low, 1, api.OK}, {128, all, all, 1, api.OK}, {128, all, 1, all, api.OK},
		{128, all, 10, 1844674407370955161, api.OK}, {128, low, 2, 1 << 62, api.OK},
		{128, 7, 0, 0, api.ErrI64Zero}, {128, 0, 0, 0, api.ErrI64Zero}, {128, low, 0, 0, api.ErrI64Zero},
		{129, 7, 2, 1, api.OK}, {129, -7, 2, -1, api.OK}, {129, 7, -2, 1, api.OK}, {129, -7, -2, -1, api.OK},
		{129, low, all, 0, api.OK}, {129, low, 3, -2, api.OK}, {129, low, low, 0, api.OK},
		{129, high, low, high, api.OK}, {129, 6, 3, 0, api.OK}, {129, high, all, 0, api.OK},
		{129, 7, 0, 0, api.ErrI64Zero}, {129, 0, 0, 0, api.ErrI64Zero}, {129, low, 0, 0, api.ErrI64Zero},
		{130, 7, 2, 1, api.OK}, {130, -7, 2, 1, api.OK}, {130, low, all, low, api.OK},
		{130, all, low, high, api.OK}, {130, all, 10, 5, api.OK}, {130, 6, 3, 0, api.OK},
		{130, 7, 0, 0, api.ErrI64Zero}, {130, 0, 0, 0, api.ErrI64Zero}, {130, low, 0, 0, api.ErrI64Zero},
	} {
		checkBin(t, c)
	}
}

func TestShift(t *testing.T) {
	x := bitsOf(0x90ABCDEF12345678)
	for _, c := range []struct {
		by                          int
		shl, shrS, shrU, rotl, rotr uint64
	}{
		{0, 0x90ABCDEF12345678, 0x90ABCDEF12345678, 0x90ABCDEF12345678, 0x90ABCDEF12345678, 0x90ABCDEF12345678},
		{1, 0x21579BDE2468ACF0, 0xC855E6F7891A2B3C, 0x4855E6F7891A2B3C, 0x21579BDE2468ACF1, 0x4855E6F7891A2B3C},
		{4, 0x0ABCDEF123456780, 0xF90ABCDEF1234567, 0x090ABCDEF1234567, 0x0ABCDEF123456789, 0x890ABCDEF1234567},
		{32, 0x1234567800000000, 0xFFFFFFFF90ABCDEF, 0x0000000090ABCDEF, 0x1234567890ABCDEF, 0x1234567890ABCDEF},
		{63, 0, 0xFFFFFFFFFFFFFFFF, 1, 0x4855E6F7891A2B3C, 0x21579BDE2468ACF1},
	} {
		// As many places, and those more or fewer by whole widths.
		for _, by := range []int{c.by, c.by + 64, c.by + 128, c.by - 64, c.by - 1<<32, c.by + math.MinInt} {
			for k, want := range []uint64{c.shl, c.shrS, c.shrU, c.rotl, c.rotr} {
				checkBin(t, binCase{134 + k, x, by, bitsOf(want), api.OK})
			}
		}
	}
	for _, c := range []binCase{
		{134, 1, 63, low, api.OK}, {134, 3, 63, low, api.OK}, {134, 1, -1, low, api.OK}, {134, 1, high, low, api.OK},
		{135, high, 62, 1, api.OK}, {135, low, 63, all, api.OK}, {135, low, -1, all, api.OK}, {135, high, -1, 0, api.OK},
		{136, low, 63, 1, api.OK}, {136, all, -1, 1, api.OK}, {136, all, 1, high, api.OK},
		{137, low, 1, 1, api.OK}, {137, 1, -1, low, api.OK}, {137, 1, -2, 1 << 62, api.OK},
		{138, 1, 1, low, api.OK}, {138, low, -1, 1, api.OK}, {138, low, -2, 2, api.OK},
	} {
		checkBin(t, c)
	}
}

func TestWrongOps(t *testing.T) {
	wrong := func(op int, isUn bool, isBin bool) {
		for _, b := range []int{7, 0, -1} {
			if got, e := Un(op, b); !isUn && (got != 0 || e != api.ErrI64Form) {
				t.Errorf("P3.1: Un(%d, %d): %d, %d; want 0, %d", op, b, got, e, api.ErrI64Form)
			}
			if got, e := Bin(op, low, b); !isBin && (got != 0 || e != api.ErrI64Form) {
				t.Errorf("P3.2: Bin(%d, -2^63, %d): %d, %d; want 0, %d", op, b, got, e, api.ErrI64Form)
			}
		}
	}
	for op := -300; op < 600; op++ {
		isUn := op == 80 || op >= 121 && op <= 123
		isBin := op >= 81 && op <= 90 || op >= 124 && op <= 138
		wrong(op, isUn, isBin)
	}
	// Numbers whose low bits alone name an operation.
	for op := 80; op <= 138; op++ {
		for _, far := range []int{op + 1<<32, op - 1<<32, op + math.MinInt, -op} {
			wrong(far, false, false)
		}
	}
	wrong(math.MaxInt, false, false)
	wrong(math.MinInt, false, false)
}
