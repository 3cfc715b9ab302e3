package valid

import (
	"slices"

	"pelorus/api"
	"pelorus/constx"
	"pelorus/flow"
	"pelorus/ftype"
	"pelorus/imports"
)

// mostEntries: the most entries that a table's limits may tell.
const mostEntries = 1<<32 - 1

// rules: a rule for each part, in the row in which their errors are told; each may count on those ahead of it. Layer 16 took the
// module ahead of all, so that no number is below 0 but for Most and Start, kinds and the types of globals are some, and there
// is a code for each function.
func rules(m api.Module) []rule {
	there := counts(m)
	return []rule{
		each(api.ErrValidType, m.Types, ftype.May),
		funcs(m),
		tables(m),
		mems(m),
		globals(m),
		exports(m, there),
		start(m),
		elems(m, there),
		datas(m, there),
		codes(m),
	}
}

// counts: how many there are of each kind, imported ones with them.
func counts(m api.Module) [4]int {
	funcs, tables, mems, globals := ftype.Counts(m)
	return [...]int{api.KindFunc: funcs, api.KindTable: tables, api.KindMem: mems, api.KindGlobal: globals}
}

// funcs: each is of one of the module's types.
func funcs(m api.Module) rule {
	var types []int
	for i := range imports.Of(m, api.KindFunc) {
		types = append(types, i.Type)
	}
	types = append(types, m.Funcs...)
	return each(api.ErrValidFunc, types, func(t int) bool { return t < len(m.Types) })
}

// tables: there is one at most, and its limits are so.
func tables(m api.Module) rule {
	all := withImported(m, api.KindTable, m.Tables)
	own := len(all) - len(m.Tables)
	return rule{api.ErrValidTable, len(all), func(k int) bool {
		return k == 0 && isWithin(all[k], mostEntries) && (k < own || all[k].Least <= api.MaxTable)
	}}
}

// mems: there is one at most, and its limits are so.
func mems(m api.Module) rule {
	all := withImported(m, api.KindMem, m.Mems)
	return rule{api.ErrValidMem, len(all), func(k int) bool {
		return k == 0 && isWithin(all[k], api.MaxPages)
	}}
}

// withImported: the limits of all that is of a kind, the module's own ones behind those that it asks for.
func withImported(m api.Module, kind int, own []api.Limits) []api.Limits {
	var all []api.Limits
	for i := range imports.Of(m, kind) {
		all = append(all, i.Limits)
	}
	return append(all, own...)
}

// isWithin: whether limits stand in their row, and are no more than a bound.
func isWithin(l api.Limits, bound int) bool {
	if l.Most == -1 {
		return l.Least <= bound
	}
	return l.Least <= l.Most && l.Most <= bound
}

// globals: each begins with a constant of its type.
func globals(m api.Module) rule {
	return each(api.ErrValidGlobal, m.Globals, func(g api.Global) bool {
		return isConst(m, g.Init, g.Type)
	})
}

// isConst: whether a list is a constant expression of a type.
func isConst(m api.Module, is []api.Instr, t int) bool {
	return constx.Check(m, is, t) == api.OK
}

// exports: each has a name of its own, and what it names is there.
func exports(m api.Module, there [4]int) rule {
	last := map[string]int{}
	for k, e := range m.Exports {
		last[e.Name] = k
	}
	return rule{api.ErrValidExport, len(m.Exports), func(k int) bool {
		e := m.Exports[k]
		return last[e.Name] == k && e.Index < there[e.Kind]
	}}
}

// start: if there is one, it is a function that takes and gives nothing.
func start(m api.Module) rule {
	var all []int
	if m.Start != -1 {
		all = []int{m.Start}
	}
	return each(api.ErrValidStart, all, func(k int) bool {
		t, code := ftype.Func(m, k)
		return code == api.OK && ftype.Same(t, api.FuncType{})
	})
}

// elems: each has a table to go to, a constant place there, and functions that are there.
func elems(m api.Module, there [4]int) rule {
	isNone := func(k int) bool { return k >= there[api.KindFunc] }
	return each(api.ErrValidElem, m.Elems, func(e api.Elem) bool {
		return there[api.KindTable] > 0 && isConst(m, e.Offset, api.TypeI32) && !slices.ContainsFunc(e.Funcs, isNone)
	})
}

// datas: each has a memory to go to, and a constant place there.
func datas(m api.Module, there [4]int) rule {
	return each(api.ErrValidData, m.Datas, func(d api.Data) bool {
		return there[api.KindMem] > 0 && isConst(m, d.Offset, api.TypeI32)
	})
}

// codes: each is well typed as its function's.
func codes(m api.Module) rule {
	return rule{api.ErrValidCode, len(m.Codes), func(k int) bool {
		_, code := flow.Check(m, m.Types[m.Funcs[k]], m.Codes[k])
		return code == api.OK
	}}
}
