package access

import (
	"math"
	"testing"
)

// Each load and store by its number, as the chapter tells them.
func TestOf(t *testing.T) {
	want := map[int]Access{
		40: {4, 127, false}, 41: {8, 126, false}, 42: {4, 125, false}, 43: {8, 124, false},
		44: {1, 127, true}, 45: {1, 127, false}, 46: {2, 127, true}, 47: {2, 127, false},
		48: {1, 126, true}, 49: {1, 126, false}, 50: {2, 126, true}, 51: {2, 126, false}, 52: {4, 126, true}, 53: {4, 126, false},
		54: {4, 127, false}, 55: {8, 126, false}, 56: {4, 125, false}, 57: {8, 124, false},
		58: {1, 127, false}, 59: {2, 127, false}, 60: {1, 126, false}, 61: {2, 126, false}, 62: {4, 126, false},
	}
	ops := []int{math.MinInt, math.MinInt + 40, math.MaxInt, 1<<32 + 40, 1<<32 + 54, -40, -54}
	for op := -300; op <= 300; op++ {
		ops = append(ops, op)
	}
	for _, op := range ops {
		if got := Of(op); got != want[op] {
			t.Errorf("chapter 8: Of(%d): %v; want %v", op, got, want[op])
		}
		if got := IsLoad(op); got != (op >= 40 && op <= 53) {
			t.Errorf("chapter 8: IsLoad(%d): %v", op, got)
		}
		if got := IsStore(op); got != (op >= 54 && op <= 62) {
			t.Errorf("chapter 8: IsStore(%d): %v", op, got)
		}
	}
}
