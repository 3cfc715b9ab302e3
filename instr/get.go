package instr

import (
	"pelorus/api"
	"pelorus/bits"
	"pelorus/leb"
)

// reader: a text, the place in it, how many instructions may still begin, and the first error that was met. Behind an
// error nothing more is read, and what is answered means nothing.
type reader struct {
	s    string
	at   int
	left int
	code api.Errno
}

// fail: keeps the first error.
func (r *reader) fail(code api.Errno) {
	if r.code == api.OK {
		r.code = code
	}
}

// list: the instructions of a list, and the byte that ends it: 0x05 too, where the list is the Body of an OpIf.
func (r *reader) list(depth int, ofIf bool) ([]api.Instr, int) {
	var is []api.Instr
	for {
		op := r.next()
		if r.code != api.OK {
			return nil, 0
		}
		if op == endByte || op == elseByte && ofIf {
			return is, op
		}
		i := r.instr(op, depth)
		if r.code != api.OK {
			return nil, 0
		}
		is = append(is, i)
	}
}

// instr: the instruction that begins with an Op, if it may begin here.
func (r *reader) instr(op int, depth int) api.Instr {
	l := layoutOf(op)
	switch {
	case l == noOp:
		r.fail(api.ErrInstrOp)
	case r.left == 0:
		r.fail(api.ErrInstrForm)
	case isTooDeep(l, depth):
		r.fail(api.ErrInstrNest)
	}
	if r.code != api.OK {
		return api.Instr{}
	}
	r.left--
	i := api.Instr{Op: op}
	if l == block || l == choice {
		r.block(&i, l, depth)
	} else {
		r.plain(&i, l)
	}
	return i
}

// block: what stands behind an Op of blocks.
func (r *reader) block(i *api.Instr, l layout, depth int) {
	i.Type = r.blockType()
	if r.code != api.OK {
		return
	}
	body, last := r.list(depth+1, l == choice)
	i.Body = body
	if last == elseByte {
		i.Else, _ = r.list(depth+1, false)
	}
}

// plain: what stands behind an Op that is none of blocks.
func (r *reader) plain(i *api.Instr, l layout) {
	switch l {
	case index:
		i.A = r.number()
	case indirect:
		i.A = r.number()
		r.zero()
	case access:
		i.A = r.number()
		i.B = r.number()
	case jumps:
		i.Labels = r.labels()
	case zeroByte:
		r.zero()
	case whole32:
		i.Bits = bits.Low(r.signed(32))
	case whole64:
		i.Bits = r.signed(64)
	case float32s:
		i.Bits = r.lowest(4)
	case float64s:
		i.Bits = r.lowest(8)
	}
}

// next: the next byte.
func (r *reader) next() int {
	if r.code != api.OK {
		return 0
	}
	if r.at == len(r.s) {
		r.fail(api.ErrInstrCut)
		return 0
	}
	r.at++
	return int(r.s[r.at-1])
}

// zero: a byte that must be 0.
func (r *reader) zero() {
	if r.next() != 0 {
		r.fail(api.ErrInstrForm)
	}
}

// blockType: a block's type.
func (r *reader) blockType() int {
	t := r.next()
	if !isBlockType(t) {
		r.fail(api.ErrInstrForm)
	}
	return t
}

// lowest: so many bytes as a number, the lowest first.
func (r *reader) lowest(many int) int {
	x := 0
	for k := range many {
		x |= r.next() << (8 * k)
	}
	return x
}

// labels: those of OpBrTable: one more than the number ahead of them tells.
func (r *reader) labels() []int {
	more := r.number()
	if more >= api.MaxItems {
		r.fail(api.ErrInstrForm)
	}
	var all []int
	for k := 0; k <= more && r.code == api.OK; k++ {
		all = append(all, r.number())
	}
	return all
}

// number: a number without sign, of 32 bits.
func (r *reader) number() int {
	if r.code != api.OK {
		return 0
	}
	x, behind, code := leb.Get(r.s, r.at, 32)
	return r.read(x, behind, code)
}

// signed: a number with sign, of so many bits.
func (r *reader) signed(width int) int {
	if r.code != api.OK {
		return 0
	}
	x, behind, code := leb.GetSigned(r.s, r.at, width)
	return r.read(x, behind, code)
}

// read: takes what layer 12 answered.
func (r *reader) read(x int, behind int, code api.Errno) int {
	switch code {
	case api.OK:
		r.at = behind
	case api.ErrLebCut:
		r.fail(api.ErrInstrCut)
	default:
		r.fail(api.ErrInstrForm)
	}
	return x
}
