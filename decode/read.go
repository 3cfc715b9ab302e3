package decode

import (
	"strings"

	"pelorus/api"
	"pelorus/instr"
	"pelorus/leb"
	"pelorus/marks"
	"pelorus/names"
	"pelorus/vals"
)

// reader: a text that ends where a section does, and the place in it. What does not stand there as it must is thrown.
type reader struct {
	s  string
	at int
}

// list: how many items there are, at most so many, then each of them.
func list[T any](r *reader, most int, item func() T) []T {
	var all []T
	for range r.count(most) {
		all = append(all, item())
	}
	return all
}

// count: how many items a list has. It is held against the bound ahead of any item.
func (r *reader) count(most int) int {
	many := r.number()
	need(many <= most, api.ErrDecodeLong)
	return many
}

// left: how many bytes are left in the section.
func (r *reader) left() int {
	return len(r.s) - r.at
}

// next: the next byte.
func (r *reader) next() int {
	need(r.left() > 0, api.ErrDecodeForm)
	r.at++
	return int(r.s[r.at-1])
}

// must: a byte that there must be.
func (r *reader) must(b int) {
	need(r.next() == b, api.ErrDecodeForm)
}

// flag: a byte 0 or 1, whether it is 1.
func (r *reader) flag() bool {
	b := r.next()
	need(b <= 1, api.ErrDecodeForm)
	return b == 1
}

// number: a number without sign, of 32 bits.
func (r *reader) number() int {
	x, behind, code := leb.Get(r.s, r.at, 32)
	need(code == api.OK, api.ErrDecodeForm)
	r.at = behind
	return x
}

// zero: a number that must be 0.
func (r *reader) zero() {
	need(r.number() == 0, api.ErrDecodeForm)
}

// name: a name.
func (r *reader) name() string {
	name, behind, code := names.Get(r.s, r.at)
	need(code != api.ErrNameLong, api.ErrDecodeLong)
	need(code == api.OK, api.ErrDecodeForm)
	r.at = behind
	return name
}

// instrs: a list of instructions.
func (r *reader) instrs() []api.Instr {
	is, behind, code := instr.Get(r.s, r.at)
	need(code != api.ErrInstrNest, api.ErrDecodeNest)
	need(code == api.OK, api.ErrDecodeForm)
	r.at = behind
	return is
}

// bytes: a list of bytes, however many, in new memory.
func (r *reader) bytes() string {
	many := r.number()
	need(many <= r.left(), api.ErrDecodeForm)
	begin := r.at
	r.at += many
	return strings.Clone(r.s[begin:r.at])
}

// valueType: one of the four types.
func (r *reader) valueType() int {
	t := r.next()
	need(vals.IsType(t), api.ErrDecodeForm)
	return t
}

// kind: one of the four kinds.
func (r *reader) kind() int {
	k := r.next()
	need(k <= api.KindGlobal, api.ErrDecodeForm)
	return k
}

// limits: a size, with or without Most.
func (r *reader) limits() api.Limits {
	if r.flag() {
		return api.Limits{Least: r.number(), Most: r.number()}
	}
	return api.Limits{Least: r.number(), Most: -1}
}

// custom: a custom section. It is let go, but it must begin with a name.
func (r *reader) custom() {
	r.name()
	r.at = len(r.s)
}

// funcType: a function's type.
func (r *reader) funcType() api.FuncType {
	r.must(marks.FuncByte)
	return api.FuncType{
		Params:  list(r, api.MaxItems, r.valueType),
		Results: list(r, api.MaxItems, r.valueType),
	}
}

// imported: an import.
func (r *reader) imported() api.Import {
	i := api.Import{Module: r.name(), Name: r.name(), Kind: r.kind()}
	switch i.Kind {
	case api.KindFunc:
		i.Type = r.number()
	case api.KindTable:
		i.Limits = r.table()
	case api.KindMem:
		i.Limits = r.limits()
	case api.KindGlobal:
		i.Type = r.valueType()
		i.Mut = r.flag()
	}
	return i
}

// table: a table's limits.
func (r *reader) table() api.Limits {
	r.must(marks.TableByte)
	return r.limits()
}

// global: a global.
func (r *reader) global() api.Global {
	return api.Global{Type: r.valueType(), Mut: r.flag(), Init: r.instrs()}
}

// export: an export.
func (r *reader) export() api.Export {
	return api.Export{Name: r.name(), Kind: r.kind(), Index: r.number()}
}

// elem: functions for a table.
func (r *reader) elem() api.Elem {
	r.zero()
	return api.Elem{Offset: r.instrs(), Funcs: list(r, api.MaxItems, r.number)}
}

// data: bytes for a memory.
func (r *reader) data() api.Data {
	r.zero()
	return api.Data{Offset: r.instrs(), Bytes: r.bytes()}
}

// code: a function's code. Its size bounds nothing that is read; it is held against what was.
func (r *reader) code() api.Code {
	size := r.number()
	begin := r.at
	c := api.Code{Locals: r.locals(), Body: r.instrs()}
	need(r.at-begin == size, api.ErrDecodeSize)
	return c
}

// locals: the types of all locals, which stand as runs of one type. A run is held against the bound as soon as its length is
// read, so that no long one is spread out.
func (r *reader) locals() []int {
	var all []int
	for range r.count(api.MaxItems) {
		many := r.number()
		need(many <= api.MaxLocals-len(all), api.ErrDecodeLong)
		kind := r.valueType()
		for range many {
			all = append(all, kind)
		}
	}
	return all
}
