package instr

import (
	"slices"

	"pelorus/api"
	"pelorus/bits"
	"pelorus/leb"
)

// fault: why a list is refused: the first instruction in the row of All that is one too many, too deep or may not be.
func fault(is []api.Instr) api.Errno {
	n := 0
	for depth, i := range row(is) {
		n++
		switch {
		case n > api.MaxBody:
			return api.ErrInstrForm
		case isTooDeep(layoutOf(i.Op), depth):
			return api.ErrInstrNest
		case !mayBe(i):
			return api.ErrInstrForm
		}
	}
	return api.OK
}

// mayBe: whether an instruction may be, but for what its blocks hold and how deep it stands.
func mayBe(i *api.Instr) bool {
	rest, ok := *i, true
	switch layoutOf(i.Op) {
	case noOp:
		return false
	case block:
		ok = isBlockType(i.Type)
		rest.Type, rest.Body = 0, nil
	case choice:
		ok = isBlockType(i.Type)
		rest.Type, rest.Body, rest.Else = 0, nil, nil
	case index, indirect:
		ok = isWord(i.A)
		rest.A = 0
	case access:
		ok = isWord(i.A) && isWord(i.B)
		rest.A, rest.B = 0, 0
	case jumps:
		ok = mayBeLabels(i.Labels)
		rest.Labels = nil
	case whole32, float32s:
		ok = isWord(i.Bits)
		rest.Bits = 0
	case whole64, float64s:
		rest.Bits = 0
	}
	return ok && isZero(&rest)
}

// mayBeLabels: whether an OpBrTable may have these. How many there are goes ahead, so that no long list is walked over.
func mayBeLabels(all []int) bool {
	return len(all) > 0 && len(all) <= api.MaxItems && !slices.ContainsFunc(all, func(x int) bool { return !isWord(x) })
}

// isZero: whether all fields but Op are zero; an empty list is nil.
func isZero(i *api.Instr) bool {
	return i.A == 0 && i.B == 0 && i.Bits == 0 && i.Type == 0 && len(i.Labels) == 0 && len(i.Body) == 0 && len(i.Else) == 0
}

// writer: what was written.
type writer struct {
	out []byte
}

// list: writes a list and its end.
func (w *writer) list(is []api.Instr) {
	w.instrs(is)
	w.out = append(w.out, endByte)
}

// instrs: writes instructions one behind the other.
func (w *writer) instrs(is []api.Instr) {
	for k := range is {
		w.instr(&is[k])
	}
}

// instr: writes an instruction that may be.
func (w *writer) instr(i *api.Instr) {
	w.out = append(w.out, byte(i.Op))
	switch layoutOf(i.Op) {
	case block:
		w.out = append(w.out, byte(i.Type))
		w.list(i.Body)
	case choice:
		w.choice(i)
	case index:
		w.numbers(i.A)
	case indirect:
		w.numbers(i.A)
		w.out = append(w.out, 0)
	case access:
		w.numbers(i.A, i.B)
	case jumps:
		w.numbers(len(i.Labels) - 1)
		w.numbers(i.Labels...)
	case zeroByte:
		w.out = append(w.out, 0)
	case whole32:
		w.signed(bits.Sign(i.Bits))
	case whole64:
		w.signed(i.Bits)
	case float32s:
		w.lowest(i.Bits, 4)
	case float64s:
		w.lowest(i.Bits, 8)
	}
}

// choice: writes what stands behind OpIf. An empty Else is not written.
func (w *writer) choice(i *api.Instr) {
	w.out = append(w.out, byte(i.Type))
	w.instrs(i.Body)
	if len(i.Else) > 0 {
		w.out = append(w.out, elseByte)
		w.instrs(i.Else)
	}
	w.out = append(w.out, endByte)
}

// numbers: writes numbers without sign.
func (w *writer) numbers(xs ...int) {
	for _, x := range xs {
		w.out = append(w.out, leb.Put(x)...)
	}
}

// signed: writes a number with its sign.
func (w *writer) signed(x int) {
	w.out = append(w.out, leb.PutSigned(x)...)
}

// lowest: writes the lowest bytes of a number, the lowest first.
func (w *writer) lowest(x int, many int) {
	for k := range many {
		w.out = append(w.out, byte(x>>(8*k)))
	}
}
