package vals

import (
	"math"
	"slices"
	"testing"

	"pelorus/api"
)

// four are the types that there are.
func four() []int { return []int{127, 126, 125, 124} }

func TestIsType(t *testing.T) {
	all := []int{math.MinInt, math.MaxInt, -1 << 32, 1<<32 + 127, 1<<32 + 124, 1<<8 + 125, -124, -127}
	for k := -300; k <= 300; k++ {
		all = append(all, k)
	}
	for _, k := range all {
		if got, want := IsType(k), slices.Contains(four(), k); got != want {
			t.Errorf("chapter 10: IsType(%d): %v; want %v", k, got, want)
		}
	}
}

func TestMayBe(t *testing.T) {
	for _, c := range []struct {
		bits   int
		narrow bool // whether they are bits of 32
	}{
		{0, true}, {1, true}, {1<<31 - 1, true}, {1 << 31, true}, {1<<32 - 2, true}, {1<<32 - 1, true},
		{1 << 32, false}, {1<<32 + 1, false}, {1<<62 + 1, false}, {math.MaxInt, false},
		{-1, false}, {-2, false}, {-1 << 31, false}, {-1 << 32, false}, {math.MinInt, false},
	} {
		for _, kind := range four() {
			want := c.narrow || kind == api.TypeI64 || kind == api.TypeF64
			if got := MayBe(api.Val{Type: kind, Bits: c.bits}); got != want {
				t.Errorf("chapter 10: MayBe({%d, %d}): %v; want %v", kind, c.bits, got, want)
			}
		}
		for _, kind := range []int{0, 1, -1, 64, 123, 128, 112, 255, -127, 1<<32 + 127, math.MinInt, math.MaxInt} {
			if MayBe(api.Val{Type: kind, Bits: c.bits}) {
				t.Errorf("chapter 10: MayBe({%d, %d}): true; want false", kind, c.bits)
			}
		}
	}
}

func TestConstType(t *testing.T) {
	want := map[int]int{65: 127, 66: 126, 67: 125, 68: 124}
	all := []int{math.MinInt, math.MaxInt, 1<<32 + 65, 1<<32 + 68, -65, -68}
	for op := -300; op <= 300; op++ {
		all = append(all, op)
	}
	for _, op := range all {
		kind, ok := want[op]
		if !ok {
			kind = 64
		}
		if got := ConstType(op); got != kind {
			t.Errorf("chapter 14: ConstType(%d): %d; want %d", op, got, kind)
		}
	}
}
