package valid

import (
	"fmt"
	"slices"
	"testing"

	"pelorus/api"
	"pelorus/encode"
	"pelorus/flow"
)

// What the tests share: modules with every part, faults that may be put into them, the question that is asked, and the chapter's
// row written a second time.

// Errors by short names, so that rows of tests stay rows.
const (
	badForm   = api.ErrValidForm
	badType   = api.ErrValidType
	badFunc   = api.ErrValidFunc
	badTable  = api.ErrValidTable
	badMem    = api.ErrValidMem
	badGlobal = api.ErrValidGlobal
	badExport = api.ErrValidExport
	badStart  = api.ErrValidStart
	badElem   = api.ErrValidElem
	badData   = api.ErrValidData
	badCode   = api.ErrValidCode
)

// row gives all errors as the chapter names them, from the first to the last.
func row() []api.Errno {
	return []api.Errno{badForm, badType, badFunc, badTable, badMem, badGlobal, badExport, badStart, badElem, badData, badCode}
}

// one gives a list of one constant, get one of OpGlobalGet, op a list of instructions without numbers.
func one(op, bits int) []api.Instr { return []api.Instr{{Op: op, Bits: bits}} }

func get(k int) []api.Instr { return []api.Instr{{Op: api.OpGlobalGet, A: k}} }

func op(ops ...int) []api.Instr {
	var out []api.Instr
	for _, o := range ops {
		out = append(out, api.Instr{Op: o})
	}
	return out
}

// home gives a valid module with every part, and a table and a memory of its own.
//
// Functions: 0 >, 1 il>f are imported; 2 >, 3 >i, 4 d>, 5 ii>i are its own.
// Globals: 0 i, 1 l mut, 2 f, 3 i mut are imported; 4 i mut, 5 i, 6 f, 7 d mut, 8 l are its own.
func home() api.Module {
	return api.Module{
		Types: []api.FuncType{
			{}, {Params: []int{127, 126}, Results: []int{125}}, {Results: []int{127}}, {Params: []int{124}}, {Params: []int{127, 127}, Results: []int{127}},
		},
		Imports: []api.Import{
			{Module: "m", Name: "f"}, {Module: "m", Name: "g", Kind: 3, Type: 127}, {Module: "m", Name: "h", Kind: 3, Type: 126, Mut: true},
			{Module: "m", Name: "i", Type: 1}, {Module: "m", Name: "j", Kind: 3, Type: 125}, {Module: "m", Name: "k", Kind: 3, Type: 127, Mut: true},
		},
		Funcs:  []int{0, 2, 3, 4},
		Tables: []api.Limits{{Least: 4, Most: -1}},
		Mems:   []api.Limits{{Least: 1, Most: 2}},
		Globals: []api.Global{
			{Type: 127, Mut: true, Init: one(65, 7)}, {Type: 127, Init: get(0)}, {Type: 125, Init: get(2)},
			{Type: 124, Mut: true, Init: one(68, -1)}, {Type: 126, Init: one(66, -1)},
		},
		Exports: []api.Export{
			{Name: "f", Index: 5}, {Name: "t", Kind: 1}, {Name: "m", Kind: 2}, {Name: "g", Kind: 3, Index: 8}, {Name: "", Kind: 3}, {Name: "again", Index: 5},
		},
		Start: 2,
		Elems: []api.Elem{{Offset: one(65, 0), Funcs: []int{0, 1, 5, 5}}, {Offset: get(0), Funcs: nil}, {Offset: get(0), Funcs: []int{2}}},
		Codes: homeCodes(),
		Datas: []api.Data{{Offset: one(65, 1<<32-1), Bytes: "abc"}, {Offset: get(0)}},
	}
}

// homeCodes gives the codes of home.
func homeCodes() []api.Code {
	return []api.Code{
		{Locals: []int{124, 127}, Body: []api.Instr{{Op: api.OpCall, A: 3}, {Op: api.OpLocalSet, A: 1}, {Op: api.OpLocalGet, A: 0}, {Op: api.OpCall, A: 4}, {Op: api.OpCall, A: 0}}},
		{Body: []api.Instr{{Op: api.OpI32Const, Bits: 8}, {Op: api.OpLoad, A: 2, B: 4}}},
		{Body: []api.Instr{{Op: api.OpGlobalGet, A: 8}, {Op: api.OpGlobalSet, A: 1}}},
		{Body: []api.Instr{{Op: api.OpLocalGet, A: 0}, {Op: api.OpLocalGet, A: 1}, {Op: api.OpI32Const, Bits: 3}, {Op: api.OpCallIndirect, A: 4}}},
	}
}

// asked gives home with its table and its memory imported, and a start that is imported.
func asked() api.Module {
	m := home()
	m.Imports = append(m.Imports,
		api.Import{Module: "n", Name: "t", Kind: 1, Limits: api.Limits{Least: 4, Most: 1 << 20}},
		api.Import{Module: "n", Name: "m", Kind: 2, Limits: api.Limits{Least: 1, Most: -1}})
	m.Tables, m.Mems, m.Start = nil, nil, 0
	return m
}

// small gives a valid module without table, memory, imports and start: one function of no parameters.
func small() api.Module {
	return api.Module{Types: []api.FuncType{{}}, Funcs: []int{0}, Start: -1, Codes: []api.Code{{}}}
}

// both gives the modules that faults are put into, by what they are.
func both() map[string]func() api.Module {
	return map[string]func() api.Module{"home": home, "asked": asked}
}

// limitsOf gives the limits of a module's first table or memory, wherever these stand.
func limitsOf(m *api.Module, kind int) *api.Limits {
	for k := range m.Imports {
		if m.Imports[k].Kind == kind {
			return &m.Imports[k].Limits
		}
	}
	if kind == api.KindTable {
		return &m.Tables[0]
	}
	return &m.Mems[0]
}

// whole tells all that a module is, as a text; an empty list is nil.
func whole(m api.Module) string { return fmt.Sprintf("%+v", m) }

// told gives the beginning of what a module is.
func told(m api.Module) string {
	s := whole(m)
	return s[:min(len(s), 900)]
}

// asks asks Module, and that what was handed in is as it was.
func asks(t *testing.T, what string, m api.Module, want api.Errno) {
	t.Helper()
	before := whole(m)
	if got := Module(m); got != want {
		t.Errorf("P19.1: %s: %d; want %d: %s", what, got, want, told(m))
	}
	if whole(m) != before {
		t.Errorf("R4: %s: %s was changed", what, told(m))
	}
}

// space is all that a module has, imported and its own, each kind by itself.
type space struct {
	funcs   []int
	tables  []bounds
	mems    []bounds
	globals []cell
}

type bounds struct {
	least, most int
	own         bool
}

type cell struct {
	kind  int
	fixed bool // imported, and not mut
}

func spaceOf(m api.Module) space {
	var s space
	for _, i := range m.Imports {
		switch i.Kind {
		case 0:
			s.funcs = append(s.funcs, i.Type)
		case 1:
			s.tables = append(s.tables, bounds{i.Limits.Least, i.Limits.Most, false})
		case 2:
			s.mems = append(s.mems, bounds{i.Limits.Least, i.Limits.Most, false})
		case 3:
			s.globals = append(s.globals, cell{i.Type, !i.Mut})
		}
	}
	s.funcs = append(s.funcs, m.Funcs...)
	for _, l := range m.Tables {
		s.tables = append(s.tables, bounds{l.Least, l.Most, true})
	}
	for _, l := range m.Mems {
		s.mems = append(s.mems, bounds{l.Least, l.Most, true})
	}
	for _, g := range m.Globals {
		s.globals = append(s.globals, cell{g.Type, false})
	}
	return s
}

// judge: the chapter's row written a second time.
func judge(m api.Module) api.Errno {
	if _, code := encode.Module(m); code != api.OK {
		return badForm
	}
	s := spaceOf(m)
	for k, isBad := range []func(api.Module, space) bool{
		badTypes, badFuncs, badTables, badMems, badGlobals, badExports, badStarts, badElems, badDatas, badCodes,
	} {
		if isBad(m, s) {
			return row()[k+1]
		}
	}
	return api.OK
}

func badTypes(m api.Module, s space) bool {
	for _, t := range m.Types {
		if len(t.Params) > 32 || len(t.Results) > 1 {
			return true
		}
	}
	return false
}

func badFuncs(m api.Module, s space) bool {
	return len(s.funcs) > 0 && slices.Max(s.funcs) >= len(m.Types)
}

func badTables(m api.Module, s space) bool {
	if len(s.tables) != 1 {
		return len(s.tables) > 1
	}
	b := s.tables[0]
	return b.most >= 0 && b.least > b.most || b.own && b.least > 1024
}

func badMems(m api.Module, s space) bool {
	if len(s.mems) != 1 {
		return len(s.mems) > 1
	}
	b := s.mems[0]
	return b.most >= 0 && b.least > b.most || b.least > 65536 || b.most > 65536
}

// notConst tells whether a list is no constant expression of a type.
func notConst(s space, is []api.Instr, kind int) bool {
	if len(is) != 1 {
		return true
	}
	switch i := is[0]; {
	case 65 <= i.Op && i.Op <= 68:
		return i.Op+kind != 65+127
	case i.Op == 35 && i.A < len(s.globals):
		return s.globals[i.A] != cell{kind, true}
	}
	return true
}

func badGlobals(m api.Module, s space) bool {
	for _, g := range m.Globals {
		if notConst(s, g.Init, g.Type) {
			return true
		}
	}
	return false
}

func badExports(m api.Module, s space) bool {
	many := []int{len(s.funcs), len(s.tables), len(s.mems), len(s.globals)}
	for k, e := range m.Exports {
		for _, other := range m.Exports[:k] {
			if other.Name == e.Name {
				return true
			}
		}
		if e.Index >= many[e.Kind] {
			return true
		}
	}
	return false
}

func badStarts(m api.Module, s space) bool {
	if m.Start == -1 {
		return false
	}
	if m.Start >= len(s.funcs) {
		return true
	}
	t := m.Types[s.funcs[m.Start]]
	return len(t.Params)+len(t.Results) > 0
}

func badElems(m api.Module, s space) bool {
	for _, e := range m.Elems {
		if len(s.tables) == 0 || notConst(s, e.Offset, 127) || len(e.Funcs) > 0 && slices.Max(e.Funcs) >= len(s.funcs) {
			return true
		}
	}
	return false
}

func badDatas(m api.Module, s space) bool {
	for _, d := range m.Datas {
		if len(s.mems) == 0 || notConst(s, d.Offset, 127) {
			return true
		}
	}
	return false
}

func badCodes(m api.Module, s space) bool {
	for k, c := range m.Codes {
		if _, code := flow.Check(m, m.Types[m.Funcs[k]], c); code != api.OK {
			return true
		}
	}
	return false
}
