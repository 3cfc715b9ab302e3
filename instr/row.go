package instr

import (
	"iter"

	"pelorus/api"
)

// row: the instructions in the row of All, where they stand, with their depths: at most MaxBody and one more, so that a
// list that holds itself has an end too.
func row(is []api.Instr) iter.Seq2[int, *api.Instr] {
	return func(yield func(int, *api.Instr) bool) {
		w := walk{left: api.MaxBody + 1, yield: yield}
		w.list(is, 0)
	}
}

// walk: how many instructions may still be given, and to whom.
type walk struct {
	left  int
	yield func(int, *api.Instr) bool
}

// list: gives a list's instructions, and tells whether the walk goes on behind them.
func (w *walk) list(is []api.Instr, depth int) bool {
	for k := range is {
		i := &is[k]
		if w.left == 0 || !w.yield(depth, i) {
			return false
		}
		w.left--
		if !w.list(i.Body, depth+1) || !w.list(i.Else, depth+1) {
			return false
		}
	}
	return true
}
