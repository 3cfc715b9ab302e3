package instr

import (
	"pelorus/api"
)

// How many bytes an instruction and a label take.
const (
	labelBytes = 8
	instrBytes = 14 * labelBytes
)

// The document's bounds of all that is promised: a list is at most so many bytes, which stand in memory at one time, in
// which parts stand at most so deep in one another; and one range is given at most so many items, none of them greater
// than an instruction, which stand in memory one behind the other.
const (
	mostBytes  = 1<<31 - 1
	mostNested = 1 << 16
	mostGiven  = (1<<31 - 1) * instrBytes
)

// scale: how many bytes may still be laid on it.
type scale struct {
	left int
}

// holds: lays an instruction and all that it holds on the scale, and tells whether the bounds are kept; once they are not,
// nothing more is laid on it. A list that holds itself has no end, and is beyond them.
func (s *scale) holds(i *api.Instr, nested int) bool {
	if s.left < 0 {
		return false
	}
	s.left -= instrBytes + labelBytes*len(i.Labels)
	if nested > mostNested {
		s.left = -1
	}
	return s.left >= 0 && s.holdsAll(i.Body, nested+1) && s.holdsAll(i.Else, nested+1)
}

// holdsAll: holds of each instruction of a list.
func (s *scale) holdsAll(is []api.Instr, nested int) bool {
	for k := range is {
		if !s.holds(&is[k], nested) {
			return false
		}
	}
	return true
}

// placed: an instruction without its lists, and its depth.
type placed struct {
	depth int
	instr api.Instr
}

// shot: what All keeps of a list: its own instructions with all that they hold, as far as the bounds reach, and those that
// stand behind these in the row.
type shot struct {
	own  []api.Instr
	rest []placed
}

// taken: a shot of a list. Only what the row reaches is kept: behind it a list may go on without an end.
func taken(is []api.Instr) shot {
	var out shot
	s := scale{left: mostBytes}
	for depth, i := range row(is) {
		if depth == 0 && s.holds(i, 1) {
			out.own = append(out.own, copiedOne(i))
		}
		if s.left < 0 {
			out.rest = append(out.rest, placed{depth, stripped(i)})
		}
	}
	return out
}

// all: gives the row, counting what was given: how much a whole row would be is no matter to one who stops early.
func (s shot) all(yield func(int, api.Instr) bool) {
	given := scale{left: mostGiven}
	for depth, i := range row(s.own) {
		if !yield(depth, given.give(i)) {
			return
		}
	}
	for _, one := range s.rest {
		if !yield(one.depth, one.instr) {
			return
		}
	}
}

// give: an instruction with all that it holds, as long as the scale bears it.
func (s *scale) give(i *api.Instr) api.Instr {
	if s.holds(i, 1) {
		return copiedOne(i)
	}
	return stripped(i)
}

// stripped: an instruction without its lists.
func stripped(i *api.Instr) api.Instr {
	return api.Instr{Op: i.Op, A: i.A, B: i.B, Bits: i.Bits, Type: i.Type}
}

// copiedOne: an instruction whose lists are in new memory.
func copiedOne(i *api.Instr) api.Instr {
	out := *i
	renew(&out)
	return out
}

// renew: puts lists in new memory in place of an instruction's own.
func renew(i *api.Instr) {
	i.Labels = append([]int(nil), i.Labels...)
	i.Body = copied(i.Body)
	i.Else = copied(i.Else)
}

// copied: a list in new memory.
func copied(is []api.Instr) []api.Instr {
	if len(is) == 0 {
		return nil
	}
	out := make([]api.Instr, len(is))
	copy(out, is)
	for k := range out {
		renew(&out[k])
	}
	return out
}
