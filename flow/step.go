package flow

import (
	"slices"

	"pelorus/access"
	"pelorus/api"
	"pelorus/apply"
	"pelorus/vals"
)

// step: an instruction that opens no frame. What it names is asked for first; then it takes its values, then it gives its own.
func (w *walk) step(i *api.Instr) {
	switch i.Op {
	case api.OpDrop:
		w.takeAny()
	case api.OpSelect:
		w.choose()
	default:
		t := w.typeOf(i)
		if takesIndex(i.Op) {
			w.take(api.TypeI32)
		}
		w.takeAll(t.Params)
		w.values.push(t.Results)
		if isLast(i.Op) {
			w.leave()
		}
	}
}

// choose: OpSelect's two values may be of any type that both have; of an unknown type and a known one, the known.
func (w *walk) choose() {
	w.take(api.TypeI32)
	v := w.takeAny()
	// An unknown value is the lowest of its block: those below it are unknown too, and are taken as of whatever type.
	w.take(v.kind)
	w.values.pushOne(v)
}

// takesIndex: whether an instruction takes a condition, or an index into a table, above the values of its type.
func takesIndex(op int) bool {
	return op == api.OpBrIf || op == api.OpBrTable || op == api.OpCallIndirect
}

// isLast: whether what stands behind an instruction in its block is never reached.
func isLast(op int) bool {
	return op == api.OpUnreachable || op == api.OpBr || op == api.OpBrTable || op == api.OpReturn
}

// typeOf: what an instruction takes and gives, if what it names is there.
func (w *walk) typeOf(i *api.Instr) api.FuncType {
	switch op := i.Op; {
	case op <= api.OpCallIndirect:
		return w.controlType(i)
	case op <= api.OpGlobalSet:
		return w.variableType(i)
	case op <= api.OpMemoryGrow:
		return w.memoryType(i)
	case op <= api.OpF64Const:
		return gives(vals.ConstType(op))
	}
	t, _ := apply.Type(i.Op)
	return t
}

// controlType: typeOf of what goes elsewhere, and of what does nothing.
func (w *walk) controlType(i *api.Instr) api.FuncType {
	switch i.Op {
	case api.OpBr:
		return api.FuncType{Params: w.label(i.A)}
	case api.OpBrIf:
		l := w.label(i.A)
		return api.FuncType{Params: l, Results: l}
	case api.OpBrTable:
		return api.FuncType{Params: w.tableLabel(i.Labels)}
	case api.OpReturn:
		return api.FuncType{Params: w.frames[0].results}
	case api.OpCall:
		return w.funcType(i.A)
	case api.OpCallIndirect:
		need(w.hasTable, api.ErrFlowIndex)
		return at(w.types, i.A)
	}
	// OpUnreachable and OpNop are left.
	return api.FuncType{}
}

// tableLabel: what a branch to any of OpBrTable's labels takes.
func (w *walk) tableLabel(labels []int) []int {
	for _, k := range labels {
		w.label(k)
	}
	last := w.label(labels[len(labels)-1])
	for _, k := range labels {
		need(slices.Equal(w.label(k), last), api.ErrFlowType)
	}
	return last
}

// variableType: typeOf of locals and globals.
func (w *walk) variableType(i *api.Instr) api.FuncType {
	switch i.Op {
	case api.OpLocalGet:
		return gives(at(w.locals, i.A))
	case api.OpLocalSet:
		return takes(at(w.locals, i.A))
	case api.OpLocalTee:
		return turns(at(w.locals, i.A), at(w.locals, i.A))
	case api.OpGlobalGet:
		return gives(at(w.globals, i.A).kind)
	}
	// OpGlobalSet is left.
	g := at(w.globals, i.A)
	need(g.mut, api.ErrFlowMut)
	return takes(g.kind)
}

// memoryType: typeOf of a memory's instructions.
func (w *walk) memoryType(i *api.Instr) api.FuncType {
	need(w.hasMemory, api.ErrFlowIndex)
	is := access.Of(i.Op)
	switch {
	case i.Op == api.OpMemorySize:
		return gives(api.TypeI32)
	case i.Op == api.OpMemoryGrow:
		return turns(api.TypeI32, api.TypeI32)
	}
	need(isAligned(i.A, is.Size), api.ErrFlowAlign)
	if access.IsLoad(i.Op) {
		return turns(api.TypeI32, is.Type)
	}
	return takes(api.TypeI32, is.Type)
}

// isAligned: whether 2^a is no more than size. It is size that is shifted, since 2^a may wrap.
func isAligned(a int, size int) bool {
	return size>>a > 0
}

// gives: takes nothing, and gives a value.
func gives(kind int) api.FuncType {
	return api.FuncType{Results: []int{kind}}
}

// takes: takes values, and gives nothing.
func takes(kinds ...int) api.FuncType {
	return api.FuncType{Params: kinds}
}

// turns: takes a value, and gives one.
func turns(from int, to int) api.FuncType {
	return api.FuncType{Params: []int{from}, Results: []int{to}}
}
