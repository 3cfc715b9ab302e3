package flow

import (
	"pelorus/api"
)

// walk: what a body may name, its values, and the frames of the blocks that are open: the body's own is the lowest.
type walk struct {
	scope
	values stack
	frames []frame
}

// frame: a block that is open.
type frame struct {
	op      int
	results []int
	rest    []api.Instr // what is still to come of its list
	other   []api.Instr // the Else, while the Body of an OpIf is gone over
	base    int         // how many groups of values stand below it
	dead    bool        // whether the rest is never reached: where it has no values of its own, they are unknown
}

// body: goes over a body, block by block.
func (w *walk) body(is []api.Instr, results []int) {
	w.open(frame{op: api.OpBlock, results: results, rest: is})
frames:
	for len(w.frames) > 0 {
		f := w.inner()
		for len(f.rest) > 0 {
			i := &f.rest[0]
			f.rest = f.rest[1:]
			if isBlock(i.Op) {
				w.enter(i)
				continue frames
			}
			w.step(i)
		}
		w.end()
	}
}

// isBlock: whether an instruction opens a frame.
func isBlock(op int) bool {
	return op == api.OpBlock || op == api.OpLoop || op == api.OpIf
}

// inner: the innermost frame.
func (w *walk) inner() *frame {
	return &w.frames[len(w.frames)-1]
}

// open: opens a frame, which has no values of its own.
func (w *walk) open(f frame) {
	f.base = len(w.values.groups)
	w.frames = append(w.frames, f)
}

// enter: a block begins.
func (w *walk) enter(i *api.Instr) {
	if i.Op == api.OpIf {
		w.take(api.TypeI32)
	}
	w.open(frame{op: i.Op, results: blockResults(i.Type), rest: i.Body, other: i.Else})
}

// blockResults: the results of a block of a type.
func blockResults(t int) []int {
	if t == api.TypeNone {
		return nil
	}
	return []int{t}
}

// end: the innermost frame's list ends. Behind the Body of an OpIf its Else is gone over as a block: an empty one too, which
// without a result ends at once.
func (w *walk) end() {
	f := w.inner()
	w.takeAll(f.results)
	need(w.isBare(), api.ErrFlowRest)
	if f.op == api.OpIf {
		need(len(f.other) > 0 || len(f.results) == 0, api.ErrFlowType)
		f.op, f.rest, f.dead = api.OpBlock, f.other, false
		return
	}
	w.frames = w.frames[:len(w.frames)-1]
	// What the body gives is its function's, and no value here.
	if len(w.frames) > 0 {
		w.values.push(f.results)
	}
}

// label: what a branch to a label takes. Labels are counted from the innermost frame on.
func (w *walk) label(k int) []int {
	need(k < len(w.frames), api.ErrFlowLabel)
	f := &w.frames[len(w.frames)-1-k]
	if f.op == api.OpLoop {
		return nil
	}
	return f.results
}

// isBare: whether the innermost frame has no values of its own.
func (w *walk) isBare() bool {
	return len(w.values.groups) == w.inner().base
}

// takeAny: takes a value of any type.
func (w *walk) takeAny() value {
	if w.isBare() {
		need(w.inner().dead, api.ErrFlowUnder)
		return value{}
	}
	return w.values.pop()
}

// take: takes a value of a type.
func (w *walk) take(kind int) {
	v := w.takeAny()
	need(!v.known || v.kind == kind, api.ErrFlowType)
}

// takeAll: takes values of types, the last one first. Where all that is left are unknown values, they need not be gone over.
func (w *walk) takeAll(kinds []int) {
	for k := len(kinds) - 1; k >= 0 && !(w.isBare() && w.inner().dead); k-- {
		w.take(kinds[k])
	}
}

// leave: the rest of the innermost frame is never reached.
func (w *walk) leave() {
	f := w.inner()
	w.values.cut(f.base)
	f.dead = true
}
