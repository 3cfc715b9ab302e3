package instr

import (
	"iter"

	"pelorus/api"
)

// row: the instructions in the row of All, where they stand, with their depths: at most MaxBody and one more, so that a
// list that holds itself has an end too.
func row(is []api.Instr) iter.Seq2[int, *api.Instr] {
	return func(yield func(int, *api.Instr) bool) {
		w := walk{left: api.MaxBody + 1, yield: yield}
		w.list(is, 0)
	}
}

// walk: how many instructions may still be given, and to whom.
type walk struct {
	left  int
	yield func(int, *api.Instr) bool
}

// list: gives a list's instructions, and tells whether the walk goes on behind them.
func (w *walk) list(is []api.Instr, depth int) bool {
	for k := range is {
		i := &is[k]
		if w.left == 0 || !w.yield(depth, i) {
			return false
		}
		w.left--
		if !w.list(i.Body, depth+1) || !w.list(i.Else, depth+1) {
			return false
		}
	}
	return true
}

// The document's bounds of all that is promised: a call answers at most so many bytes, and parts stand at most so deep in
// one another.
const (
	mostBytes  = 1<<31 - 1
	mostNested = 1 << 16
)

// How many bytes an instruction and a label take.
const (
	labelBytes = 8
	instrBytes = 14 * labelBytes
)

// isGreat: whether what All is to give is beyond the document's bounds; what a list that holds itself gives has no end.
func isGreat(is []api.Instr) bool {
	s := scale{left: mostBytes}
	for _, i := range row(is) {
		if !s.holds(i, 1) {
			return true
		}
	}
	return false
}

// scale: how many bytes may still be laid on it.
type scale struct {
	left int
}

// holds: lays an instruction and all that it holds on the scale, and tells whether the bounds are kept.
func (s *scale) holds(i *api.Instr, nested int) bool {
	s.left -= instrBytes + labelBytes*len(i.Labels)
	return s.left >= 0 && nested <= mostNested && s.holdsAll(i.Body, nested+1) && s.holdsAll(i.Else, nested+1)
}

// holdsAll: holds of each instruction of a list.
func (s *scale) holdsAll(is []api.Instr, nested int) bool {
	for k := range is {
		if !s.holds(&is[k], nested) {
			return false
		}
	}
	return true
}

// copied: a list in new memory.
func copied(is []api.Instr) []api.Instr {
	var out []api.Instr
	for k := range is {
		out = append(out, copiedOne(&is[k]))
	}
	return out
}

// copiedOne: an instruction whose lists are in new memory.
func copiedOne(i *api.Instr) api.Instr {
	out := *i
	out.Labels = append([]int(nil), i.Labels...)
	out.Body = copied(i.Body)
	out.Else = copied(i.Else)
	return out
}

// whole: the row of All, each instruction with all that it holds. Only what is given is kept: behind it a list may go on
// without an end.
func whole(is []api.Instr) iter.Seq2[int, api.Instr] {
	var own []api.Instr
	for depth, i := range row(is) {
		if depth == 0 {
			own = append(own, copiedOne(i))
		}
	}
	return func(yield func(int, api.Instr) bool) {
		for depth, i := range row(own) {
			if !yield(depth, copiedOne(i)) {
				return
			}
		}
	}
}

// placed: an instruction without its lists, and its depth.
type placed struct {
	depth int
	instr api.Instr
}

// stripped: the row of All, each instruction without its lists.
func stripped(is []api.Instr) iter.Seq2[int, api.Instr] {
	var own []placed
	for depth, i := range row(is) {
		own = append(own, placed{depth, api.Instr{Op: i.Op, A: i.A, B: i.B, Bits: i.Bits, Type: i.Type}})
	}
	return func(yield func(int, api.Instr) bool) {
		for _, one := range own {
			if !yield(one.depth, one.instr) {
				return
			}
		}
	}
}
