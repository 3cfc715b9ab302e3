package flow

import (
	"slices"

	"pelorus/api"
	"pelorus/ftype"
)

// scope: what a body may name by a number, and whether there is a table or a memory. Each list is made once for a body, which
// may ask for it at each of its instructions, and holds no copies of the types' own lists, which may be long in a module that
// was not looked at yet.
type scope struct {
	locals    []int
	globals   []global
	types     []api.FuncType
	funcs     []int // where the type of each is
	hasTable  bool
	hasMemory bool
}

// global: a global's type, and whether it is mut.
type global struct {
	kind int
	mut  bool
}

// scopeOf: what the code of a function of type t may name. Imported functions and globals are counted first.
func scopeOf(m api.Module, t api.FuncType, c api.Code) scope {
	s := scope{locals: slices.Concat(t.Params, c.Locals), types: m.Types}
	for _, i := range m.Imports {
		switch i.Kind {
		case api.KindFunc:
			s.funcs = append(s.funcs, i.Type)
		case api.KindGlobal:
			s.globals = append(s.globals, global{i.Type, i.Mut})
		}
	}
	s.funcs = append(s.funcs, m.Funcs...)
	for _, g := range m.Globals {
		s.globals = append(s.globals, global{g.Type, g.Mut})
	}
	_, tables, memories, _ := ftype.Counts(m)
	s.hasTable, s.hasMemory = tables > 0, memories > 0
	return s
}

// at: number k of a list.
func at[T any](all []T, k int) T {
	need(k >= 0 && k < len(all), api.ErrFlowIndex)
	return all[k]
}

// funcType: the type of function k.
func (s *scope) funcType(k int) api.FuncType {
	return at(s.types, at(s.funcs, k))
}
