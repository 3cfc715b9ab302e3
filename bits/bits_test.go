package bits

import (
	"math"
	"testing"

	"pelorus/api"
)

// wrongWidths are widths that no number has, the ends of an int among them.
var wrongWidths = []int{0, 1, 8, 16, 31, 33, 63, 65, 96, 128, -1, -32, -64, 1<<32 + 32, 1<<32 + 64, math.MaxInt, math.MinInt}

func TestLowAndSign(t *testing.T) {
	for _, c := range []struct{ x, low, sign int }{
		{0, 0, 0},
		{1, 1, 1},
		{7, 7, 7},
		{-1, 1<<32 - 1, -1},
		{-2, 1<<32 - 2, -2},
		{1<<31 - 1, 1<<31 - 1, 1<<31 - 1},
		{1 << 31, 1 << 31, -1 << 31},
		{1<<31 + 1, 1<<31 + 1, -1<<31 + 1},
		{1<<32 - 1, 1<<32 - 1, -1},
		{1 << 32, 0, 0},
		{1<<32 + 5, 5, 5},
		{1<<32 + 1<<31, 1 << 31, -1 << 31},
		{-1 << 31, 1 << 31, -1 << 31},
		{-1<<31 - 1, 1<<31 - 1, 1<<31 - 1},
		{-1 << 32, 0, 0},
		{-1<<32 + 3, 3, 3},
		{math.MaxInt, 1<<32 - 1, -1},
		{math.MinInt, 0, 0},
		{math.MinInt + 9, 9, 9},
		{0x1234567890ABCDEF, 0x90ABCDEF, 0x90ABCDEF - 1<<32},
	} {
		if low := Low(c.x); low != c.low {
			t.Errorf("P1.1: Low(%d): %d, want %d", c.x, low, c.low)
		}
		if sign := Sign(c.x); sign != c.sign {
			t.Errorf("P1.1: Sign(%d): %d, want %d", c.x, sign, c.sign)
		}
	}
}

func TestCounts(t *testing.T) {
	for _, c := range []struct{ x, width, clz, ctz, pop int }{
		{0, 32, 32, 32, 0},
		{0, 64, 64, 64, 0},
		{1, 32, 31, 0, 1},
		{1, 64, 63, 0, 1},
		{40, 32, 26, 3, 2},
		{40, 64, 58, 3, 2},
		{-1, 32, 0, 0, 32},
		{-1, 64, 0, 0, 64},
		{-8, 32, 0, 3, 29},
		{-8, 64, 0, 3, 61},
		{1 << 31, 32, 0, 31, 1},
		{1 << 31, 64, 32, 31, 1},
		{1<<32 - 1, 32, 0, 0, 32},
		{1<<32 - 1, 64, 32, 0, 32},
		{1 << 32, 32, 32, 32, 0},
		{1 << 32, 64, 31, 32, 1},
		{1<<40 + 6, 32, 29, 1, 2},
		{1<<40 + 6, 64, 23, 1, 3},
		{-1 << 31, 64, 0, 31, 33},
		{-1 << 32, 32, 32, 32, 0},
		{-1 << 32, 64, 0, 32, 32},
		{math.MaxInt, 32, 0, 0, 32},
		{math.MaxInt, 64, 1, 0, 63},
		{math.MinInt, 32, 32, 32, 0},
		{math.MinInt, 64, 0, 63, 1},
		{0x1234567890ABCDEF, 32, 0, 0, 19},
		{0x1234567890ABCDEF, 64, 3, 0, 32},
	} {
		clz, e := Clz(c.x, c.width)
		ctz, f := Ctz(c.x, c.width)
		pop, g := Pop(c.x, c.width)
		if clz != c.clz || ctz != c.ctz || pop != c.pop {
			t.Errorf("P1.1: %d of %d: %d, %d, %d, want %d, %d, %d", c.x, c.width, clz, ctz, pop, c.clz, c.ctz, c.pop)
		}
		if e != api.OK || f != api.OK || g != api.OK {
			t.Errorf("P1.1: %d of %d: errors %d, %d, %d", c.x, c.width, e, f, g)
		}
	}
}

func TestEachSingleBit(t *testing.T) {
	for _, width := range []int{32, 64} {
		for k := range 64 {
			clz, ctz, pop := width-1-k, k, 1
			if k >= width {
				clz, ctz, pop = width, width, 0
			}
			x := int(uint64(1) << k)
			a, _ := Clz(x, width)
			b, _ := Ctz(x, width)
			c, _ := Pop(x, width)
			if a != clz || b != ctz || c != pop {
				t.Errorf("P1.1: bit %d of %d: %d, %d, %d, want %d, %d, %d", k, width, a, b, c, clz, ctz, pop)
			}
		}
	}
}

func TestRot(t *testing.T) {
	for _, c := range []struct{ x, by, width, want int }{
		{0, 5, 32, 0},
		{0, 5, 64, 0},
		{1, 0, 32, 1},
		{1, 1, 32, 2},
		{1, 31, 32, 1 << 31},
		{1, 32, 32, 1},
		{1, 33, 32, 2},
		{1, -1, 32, 1 << 31},
		{1, -32, 32, 1},
		{1, -33, 32, 1 << 31},
		{3, -1, 32, 1<<31 + 1},
		{1 << 31, 1, 32, 1},
		{0x12345678, 8, 32, 0x34567812},
		{0x12345678, -8, 32, 0x78123456},
		{0x12345678, 1<<40 + 8, 32, 0x34567812},
		{-1, 7, 32, 1<<32 - 1},
		{-1, 0, 32, 1<<32 - 1},
		{-2, 0, 32, 1<<32 - 2},
		{-2, 1, 32, 1<<32 - 3},
		{1 << 32, 0, 32, 0},
		{1 << 32, 1, 32, 0},
		{1<<32 + 1, 1, 32, 2},
		{1 << 62, 3, 32, 0},
		{1, math.MaxInt, 32, 1 << 31},
		{1, math.MinInt, 32, 1},
		{1, math.MinInt + 1, 32, 2},
		{1, 0, 64, 1},
		{1, 1, 64, 2},
		{1, 32, 64, 1 << 32},
		{1, 63, 64, math.MinInt},
		{1, 64, 64, 1},
		{1, 65, 64, 2},
		{1, 96, 64, 1 << 32},
		{1, -1, 64, math.MinInt},
		{1, -64, 64, 1},
		{1, -65, 64, math.MinInt},
		{3, -1, 64, math.MinInt + 1},
		{math.MinInt, 1, 64, 1},
		{0x123456789ABCDEF0, 16, 64, 0x56789ABCDEF01234},
		{0x123456789ABCDEF0, -60, 64, 0x23456789ABCDEF01},
		{-1, 7, 64, -1},
		{-2, 1, 64, -3},
		{1, math.MaxInt, 64, math.MinInt},
		{1, math.MinInt, 64, 1},
		{1, math.MinInt + 1, 64, 2},
	} {
		y, e := Rot(c.x, c.by, c.width)
		if y != c.want || e != api.OK {
			t.Errorf("P1.1: Rot(%d, %d, %d): %d, %d, want %d", c.x, c.by, c.width, y, e, c.want)
		}
	}
}

// TestRotEachStep rolls one bit by each step of three widths below 0 to three above.
func TestRotEachStep(t *testing.T) {
	for _, width := range []int{32, 64} {
		for by := -3 * width; by <= 3*width; by++ {
			for k := range width {
				want := int(uint64(1) << ((k + by + 3*width) % width))
				if y, e := Rot(int(uint64(1)<<k), by, width); y != want || e != api.OK {
					t.Fatalf("P1.1: bit %d by %d of %d: %d, %d, want %d", k, by, width, y, e, want)
				}
			}
		}
	}
}

func TestWrongWidths(t *testing.T) {
	calls := []struct {
		name string
		call func(x, width int) (int, api.Errno)
	}{
		{"Clz", Clz},
		{"Ctz", Ctz},
		{"Pop", Pop},
		{"Rot", func(x, width int) (int, api.Errno) { return Rot(x, 1, width) }},
		{"Rot by 0", func(x, width int) (int, api.Errno) { return Rot(x, 0, width) }},
		{"Rot by -1", func(x, width int) (int, api.Errno) { return Rot(x, -1, width) }},
	}
	for _, c := range calls {
		for _, width := range wrongWidths {
			for _, x := range []int{0, 1, -1, 12, math.MaxInt, math.MinInt} {
				if y, e := c.call(x, width); y != 0 || e != api.ErrBitsForm {
					t.Errorf("P1.1: %s of %d, width %d: %d, %d", c.name, x, width, y, e)
				}
			}
		}
	}
}

func TestBelow(t *testing.T) {
	// Each number is below all that stand behind it.
	rising := []int{0, 1, 2, 1<<31 - 1, 1 << 31, 1<<32 - 1, 1 << 32, math.MaxInt - 1, math.MaxInt, math.MinInt, math.MinInt + 1, -1 << 32, -1 << 31, -2, -1}
	for i, a := range rising {
		for k, b := range rising {
			if Below(a, b) != (i < k) {
				t.Errorf("P1.1: Below(%d, %d): %v", a, b, Below(a, b))
			}
		}
	}
}

func TestDiv(t *testing.T) {
	for _, c := range []struct{ a, b, quotient, rest int }{
		{0, 1, 0, 0},
		{0, -1, 0, 0},
		{7, 2, 3, 1},
		{6, 3, 2, 0},
		{2, 7, 0, 2},
		{1 << 40, 1<<32 + 1, 255, 1<<32 - 255},
		{math.MaxInt, math.MaxInt, 1, 0},
		{math.MaxInt, math.MinInt, 0, math.MaxInt},
		{math.MinInt, 1, math.MinInt, 0},
		{math.MinInt, 2, 1 << 62, 0},
		{math.MinInt, -1, 0, math.MinInt},
		{math.MinInt, math.MaxInt, 1, 1},
		{math.MinInt, math.MinInt, 1, 0},
		{-1, 1, -1, 0},
		{-1, 2, math.MaxInt, 1},
		{-1, 10, 1844674407370955161, 5},
		{-1, math.MaxInt, 2, 1},
		{-1, math.MinInt, 1, math.MaxInt},
		{-1, -2, 1, 1},
		{-2, -1, 0, -2},
		{-1, -1, 1, 0},
		{-7, 2, math.MaxInt - 3, 1},
		{7, -2, 0, 7},
	} {
		quotient, rest, e := Div(c.a, c.b)
		if quotient != c.quotient || rest != c.rest || e != api.OK {
			t.Errorf("P1.1: Div(%d, %d): %d, %d, %d, want %d, %d", c.a, c.b, quotient, rest, e, c.quotient, c.rest)
		}
	}
}

func TestDivByZero(t *testing.T) {
	for _, a := range []int{0, 1, -1, 1 << 32, math.MaxInt, math.MinInt} {
		if quotient, rest, e := Div(a, 0); quotient != 0 || rest != 0 || e != api.ErrBitsForm {
			t.Errorf("P1.1: Div(%d, 0): %d, %d, %d", a, quotient, rest, e)
		}
	}
}
