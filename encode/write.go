package encode

import (
	"pelorus/api"
	"pelorus/bits"
	"pelorus/instr"
	"pelorus/leb"
	"pelorus/marks"
	"pelorus/names"
	"pelorus/vals"
)

// writer: what was written, never more than a module's text may have.
type writer struct {
	out []byte
}

// put: writes bytes. Those beyond the bound are refused as they come: a module whose parts share their memory may come to
// far more than what it takes itself.
func (w *writer) put(s string) {
	need(len(s) <= api.MaxBytes-len(w.out))
	w.out = append(w.out, s...)
}

// byte: writes a byte.
func (w *writer) byte(b int) {
	w.put(string([]byte{byte(b)}))
}

// sized: writes how many bytes there are, then these.
func (w *writer) sized(content []byte) {
	w.number(len(content))
	w.put(string(content))
}

// list: writes how many items there are, at most so many, then each of them, and tells how many.
func list[T any](w *writer, all []T, most int, item func(T)) int {
	need(len(all) <= most)
	w.number(len(all))
	for _, x := range all {
		item(x)
	}
	return len(all)
}

// number: writes a number without sign, of 32 bits.
func (w *writer) number(x int) {
	need(bits.Low(x) == x)
	w.put(leb.Put(x))
}

// flag: writes a byte 1, if something holds, or else 0.
func (w *writer) flag(holds bool) {
	b := 0
	if holds {
		b = 1
	}
	w.byte(b)
}

// name: writes a name.
func (w *writer) name(s string) {
	put, code := names.Put(s)
	need(code == api.OK)
	w.put(put)
}

// instrs: writes a list of instructions.
func (w *writer) instrs(is []api.Instr) {
	put, code := instr.Put(is)
	need(code == api.OK)
	w.put(put)
}

// valueType: writes one of the four types.
func (w *writer) valueType(t int) {
	need(vals.IsType(t))
	w.byte(t)
}

// kind: writes one of the four kinds.
func (w *writer) kind(k int) {
	need(k >= api.KindFunc && k <= api.KindGlobal)
	w.byte(k)
}

// limits: writes a size, with or without Most.
func (w *writer) limits(l api.Limits) {
	bounded := l.Most != -1
	w.flag(bounded)
	w.number(l.Least)
	if bounded {
		w.number(l.Most)
	}
}

// funcType: writes a function's type.
func (w *writer) funcType(t api.FuncType) {
	w.byte(marks.FuncByte)
	list(w, t.Params, api.MaxItems, w.valueType)
	list(w, t.Results, api.MaxItems, w.valueType)
}

// imported: writes an import.
func (w *writer) imported(i api.Import) {
	w.name(i.Module)
	w.name(i.Name)
	w.kind(i.Kind)
	// The fields that no kind below names are to be zero: else they would not be read as they were.
	rest := api.Import{Module: i.Module, Name: i.Name, Kind: i.Kind}
	switch i.Kind {
	case api.KindFunc:
		rest.Type = i.Type
		w.number(i.Type)
	case api.KindTable:
		rest.Limits = i.Limits
		w.table(i.Limits)
	case api.KindMem:
		rest.Limits = i.Limits
		w.limits(i.Limits)
	case api.KindGlobal:
		rest.Type, rest.Mut = i.Type, i.Mut
		w.valueType(i.Type)
		w.flag(i.Mut)
	}
	need(i == rest)
}

// table: writes a table's limits.
func (w *writer) table(l api.Limits) {
	w.byte(marks.TableByte)
	w.limits(l)
}

// global: writes a global.
func (w *writer) global(g api.Global) {
	w.valueType(g.Type)
	w.flag(g.Mut)
	w.instrs(g.Init)
}

// export: writes an export.
func (w *writer) export(e api.Export) {
	w.name(e.Name)
	w.kind(e.Kind)
	w.number(e.Index)
}

// elem: writes functions for a table, which is number 0.
func (w *writer) elem(e api.Elem) {
	w.number(0)
	w.instrs(e.Offset)
	list(w, e.Funcs, api.MaxItems, w.number)
}

// data: writes bytes for a memory, which is number 0.
func (w *writer) data(d api.Data) {
	w.number(0)
	w.instrs(d.Offset)
	w.number(len(d.Bytes))
	w.put(d.Bytes)
}

// code: writes a function's code behind its size.
func (w *writer) code(c api.Code) {
	var inner writer
	inner.locals(c.Locals)
	inner.instrs(c.Body)
	w.sized(inner.out)
}

// run: so many locals of one type, side by side.
type run struct {
	many int
	kind int
}

// locals: writes the types of all locals.
func (w *writer) locals(all []int) {
	need(len(all) <= api.MaxLocals)
	list(w, runs(all), api.MaxLocals, w.run)
}

// run: writes a run of locals.
func (w *writer) run(r run) {
	w.number(r.many)
	w.valueType(r.kind)
}

// runs: locals as runs, each as long as it may be.
func runs(all []int) []run {
	var out []run
	for k, t := range all {
		if k == 0 || t != all[k-1] {
			out = append(out, run{kind: t})
		}
		out[len(out)-1].many++
	}
	return out
}
