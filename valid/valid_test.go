package valid

import (
	"slices"
	"strconv"
	"testing"

	"pelorus/api"
	"pelorus/decode"
	"pelorus/encode"
)

// Modules with every part, with one part, and without content.
func TestOrdinary(t *testing.T) {
	asks(t, "home", home(), api.OK)
	asks(t, "asked", asked(), api.OK)
	asks(t, "small", small(), api.OK)
	asks(t, "without content", api.Module{Start: -1}, api.OK)
	asks(t, "with empty lists", api.Module{
		Types: []api.FuncType{}, Imports: []api.Import{}, Funcs: []int{}, Tables: []api.Limits{}, Mems: []api.Limits{}, Globals: []api.Global{},
		Exports: []api.Export{}, Start: -1, Elems: []api.Elem{}, Codes: []api.Code{}, Datas: []api.Data{},
	}, api.OK)
	asks(t, "of zeros, whose Start is 0", api.Module{}, badStart)
	asks(t, "of a type alone", api.Module{Types: []api.FuncType{{Params: []int{124}}}, Start: -1}, api.OK)
	asks(t, "of a table alone", api.Module{Tables: []api.Limits{{}}, Start: -1}, api.OK)
	asks(t, "of a memory alone", api.Module{Mems: []api.Limits{{}}, Start: -1}, api.OK)
	asks(t, "of a global alone", api.Module{Globals: []api.Global{{Type: 126, Init: one(66, 5)}}, Start: -1}, api.OK)
	for k, i := range []api.Import{{Kind: 1}, {Kind: 2}, {Kind: 3, Type: 124}, {Kind: 3, Type: 125, Mut: true}} {
		asks(t, "of import "+strconv.Itoa(k)+" alone", api.Module{Imports: []api.Import{i}, Start: -1}, api.OK)
	}
	asks(t, "of an imported function alone", api.Module{Types: make([]api.FuncType, 1), Imports: make([]api.Import, 1), Start: -1}, api.OK)
}

// Two imports may have one name; so may an import and an export.
func TestImportNames(t *testing.T) {
	m := home()
	m.Imports = append(m.Imports, m.Imports[0], m.Imports[1], api.Import{Module: "m", Name: "f", Kind: 3, Type: 127})
	m.Globals, m.Funcs, m.Codes, m.Exports, m.Elems, m.Start = nil, nil, nil, []api.Export{{Name: "f"}, {Name: "m"}}, nil, -1
	asks(t, "imports of one name", m, api.OK)
}

// Parts that nothing needs may be left out one by one.
func TestWithout(t *testing.T) {
	for name, base := range both() {
		for what, cut := range map[string]func(m *api.Module){
			"exports":   func(m *api.Module) { m.Exports = nil },
			"a start":   func(m *api.Module) { m.Start = -1 },
			"elements":  func(m *api.Module) { m.Elems = nil },
			"datas":     func(m *api.Module) { m.Datas = nil },
			"locals":    func(m *api.Module) { m.Codes[2].Locals = nil },
			"functions": func(m *api.Module) { m.Funcs, m.Codes, m.Exports, m.Elems, m.Start = nil, nil, nil, nil, 0 },
		} {
			m := base()
			cut(&m)
			asks(t, name+" without "+what, m, api.OK)
		}
	}
}

// What is missing, where something needs it, is told by the first part that does.
func TestMissing(t *testing.T) {
	for name, base := range both() {
		for what, row := range map[string]struct {
			code api.Errno
			cut  func(m *api.Module)
		}{
			"types":                         {badFunc, func(m *api.Module) { m.Types = nil }},
			"its last type":                 {badFunc, func(m *api.Module) { m.Types = m.Types[:4] }},
			"globals":                       {badExport, func(m *api.Module) { m.Globals = nil }},
			"globals and exports":           {badCode, func(m *api.Module) { m.Globals, m.Exports = nil, nil }},
			"imports":                       {badGlobal, func(m *api.Module) { m.Imports = nil }},
			"functions and exports":         {badElem, func(m *api.Module) { m.Funcs, m.Codes, m.Exports, m.Start = nil, nil, nil, 0 }},
			"functions, exports, two elems": {badElem, func(m *api.Module) { m.Funcs, m.Codes, m.Exports, m.Start, m.Elems = nil, nil, nil, -1, m.Elems[2:] }},
			"functions":                     {badExport, func(m *api.Module) { m.Funcs, m.Codes = nil, nil }},
		} {
			m := base()
			row.cut(&m)
			asks(t, name+" without "+what, m, row.code)
		}
	}
	for what, row := range map[string]struct {
		code api.Errno
		cut  func(m *api.Module)
	}{
		"a table":                       {badExport, func(m *api.Module) { m.Tables = nil }},
		"a table and exports":           {badElem, func(m *api.Module) { m.Tables, m.Exports = nil, nil }},
		"a table, exports and elements": {badCode, func(m *api.Module) { m.Tables, m.Exports, m.Elems = nil, nil, nil }},
		"a memory":                      {badExport, func(m *api.Module) { m.Mems = nil }},
		"a memory and exports":          {badData, func(m *api.Module) { m.Mems, m.Exports = nil, nil }},
		"a memory, exports and datas":   {badCode, func(m *api.Module) { m.Mems, m.Exports, m.Datas = nil, nil, nil }},
		"a start that is its own":       {badStart, func(m *api.Module) { m.Start = 3 }},
		"both":                          {badElem, func(m *api.Module) { m.Tables, m.Mems, m.Exports = nil, nil, nil }},
	} {
		m := home()
		row.cut(&m)
		asks(t, "home without "+what, m, row.code)
	}
}

// What is written and read again is as valid as it was.
func TestBack(t *testing.T) {
	modules := []api.Module{home(), asked(), small(), {Start: -1}, {}}
	for _, f := range restFaults() {
		m := home()
		f.put(&m)
		modules = append(modules, m)
	}
	for _, m := range modules {
		s, code := encode.Module(m)
		if code != api.OK {
			t.Fatalf("encode.Module: %d: %s", code, told(m))
		}
		back, code := decode.Module(s)
		if code != api.OK {
			t.Fatalf("decode.Module: %d: %s", code, told(m))
		}
		asks(t, "read again", back, Module(m))
	}
}

// Kinds of imports stand between one another: what is counted is its own kind alone.
func TestBetween(t *testing.T) {
	limits := api.Limits{Least: 1, Most: -1}
	m := api.Module{
		Types: []api.FuncType{{}, {Results: []int{127}}},
		Imports: []api.Import{
			{Kind: 3, Type: 127, Mut: true}, {Kind: 2, Limits: limits}, {Kind: 0, Type: 1}, {Kind: 3, Type: 127}, {Kind: 1, Limits: limits}, {Kind: 0}, {Kind: 3, Type: 125},
		},
		Funcs: []int{1, 0}, Codes: []api.Code{{Body: []api.Instr{{Op: api.OpCall, A: 0}}}, {Body: []api.Instr{{Op: api.OpCall, A: 1}}}},
		Globals: []api.Global{{Type: 127, Init: get(1)}, {Type: 125, Init: get(2)}},
		Start:   1,
		Elems:   []api.Elem{{Offset: get(1), Funcs: []int{3, 2, 1, 0}}},
		Datas:   []api.Data{{Offset: get(1), Bytes: "x"}},
	}
	asks(t, "imports between one another", m, api.OK)
	for start, want := range map[int]api.Errno{-1: api.OK, 0: badStart, 1: api.OK, 2: badStart, 3: api.OK, 4: badStart} {
		m.Start = start
		asks(t, "start "+strconv.Itoa(start), m, want)
	}
	m.Start = 3
	for kind, many := range []int{4, 1, 1, 5} {
		for k := range 9 {
			m.Exports = []api.Export{{Name: "x", Kind: kind, Index: k}}
			want := api.OK
			if k >= many {
				want = badExport
			}
			asks(t, "an export of kind "+strconv.Itoa(kind), m, want)
		}
	}
	m.Exports = nil
	for k, want := range []api.Errno{badGlobal, api.OK, badGlobal, badGlobal, badGlobal, badGlobal} {
		m.Globals = []api.Global{{Type: 127, Init: get(k)}, {Type: 125, Init: get(2)}}
		asks(t, "a global by global "+strconv.Itoa(k), m, want)
	}
	m.Globals = nil
	for k, want := range []api.Errno{badElem, api.OK, badElem, badElem} {
		m.Elems[0].Offset = get(k)
		asks(t, "elements by global "+strconv.Itoa(k), m, want)
	}
	m.Elems = slices.Repeat([]api.Elem{{Offset: get(1)}}, 3)
	for k, want := range []api.Errno{badData, api.OK, badData, badData} {
		m.Datas[0].Offset = get(k)
		asks(t, "data by global "+strconv.Itoa(k), m, want)
	}
}
