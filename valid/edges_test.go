package valid

import (
	"slices"
	"strconv"
	"strings"
	"testing"

	"pelorus/api"
)

// ofLimits gives a module of tables or memories: some that it asks for, some of its own.
func ofLimits(kind int, imported, own []api.Limits) api.Module {
	m := api.Module{Start: -1}
	for _, l := range imported {
		m.Imports = append(m.Imports, api.Import{Kind: kind, Limits: l})
	}
	if kind == api.KindTable {
		m.Tables = own
	} else {
		m.Mems = own
	}
	return m
}

// One table and one memory at most, wherever these stand.
func TestHowMany(t *testing.T) {
	one := []api.Limits{{Least: 1, Most: 1}}
	for kind, code := range map[int]api.Errno{api.KindTable: badTable, api.KindMem: badMem} {
		for imported := range 4 {
			for own := range 4 {
				want := api.OK
				if imported+own > 1 {
					want = code
				}
				what := strconv.Itoa(imported) + " imported and " + strconv.Itoa(own) + " own of kind " + strconv.Itoa(kind)
				asks(t, what, ofLimits(kind, slices.Repeat(one, imported), slices.Repeat(one, own)), want)
			}
		}
		other := api.KindTable + api.KindMem - kind
		m := ofLimits(kind, nil, one)
		m.Imports = []api.Import{{Kind: other, Limits: one[0]}}
		asks(t, "one of each kind", m, api.OK)
		// Many may be written; the form is not what is wrong.
		asks(t, "1024 of its own", ofLimits(kind, nil, slices.Repeat(one, 1024)), code)
		asks(t, "1024 imported", ofLimits(kind, slices.Repeat(one, 1024), nil), code)
	}
	m := ofLimits(api.KindTable, one, one)
	m.Mems = slices.Repeat(one, 2)
	asks(t, "two of both", m, badTable)
}

// Limits at their bounds, and one above.
func TestLimits(t *testing.T) {
	const most = 1<<32 - 1
	for _, row := range []struct {
		kind, least, most int
		asked, own        api.Errno
	}{
		{1, 0, -1, 0, 0}, {1, 0, 0, 0, 0}, {1, 0, 1, 0, 0}, {1, 1, 0, badTable, badTable}, {1, 1, 1, 0, 0}, {1, 5, 4, badTable, badTable},
		{1, 1023, -1, 0, 0}, {1, 1024, -1, 0, 0}, {1, 1025, -1, 0, badTable}, {1, 1 << 31, -1, 0, badTable}, {1, most, -1, 0, badTable},
		{1, 1024, 1024, 0, 0}, {1, 1024, 1023, badTable, badTable}, {1, 1025, 1025, 0, badTable}, {1, 1025, 1026, 0, badTable}, {1, 1024, 1025, 0, 0},
		{1, 1025, 1024, badTable, badTable}, {1, 0, most, 0, 0}, {1, 1024, most, 0, 0}, {1, most, most, 0, badTable}, {1, most, most - 1, badTable, badTable},
		{1, most - 1, most, 0, badTable}, {1, 0, most + 1, badForm, badForm}, {1, most + 1, -1, badForm, badForm}, {1, -1, -1, badForm, badForm}, {1, 0, -2, badForm, badForm},
		{1, 65537, 1 << 31, 0, badTable}, {1, 1, 65537, 0, 0},
		{2, 0, -1, 0, 0}, {2, 0, 0, 0, 0}, {2, 0, 1, 0, 0}, {2, 1, 0, badMem, badMem}, {2, 5, 4, badMem, badMem}, {2, 5, 5, 0, 0},
		{2, 16, -1, 0, 0}, {2, 17, -1, 0, 0}, {2, 1025, -1, 0, 0}, {2, 65535, -1, 0, 0}, {2, 65536, -1, 0, 0}, {2, 65537, -1, badMem, badMem}, {2, most, -1, badMem, badMem},
		{2, 0, 65535, 0, 0}, {2, 0, 65536, 0, 0}, {2, 0, 65537, badMem, badMem}, {2, 0, most, badMem, badMem}, {2, 65536, 65536, 0, 0}, {2, 65535, 65536, 0, 0},
		{2, 65536, 65535, badMem, badMem}, {2, 65537, 65537, badMem, badMem}, {2, 65537, 65536, badMem, badMem}, {2, 65536, 65537, badMem, badMem},
		{2, most, most, badMem, badMem}, {2, 1 << 16, 0, badMem, badMem}, {2, 0, most + 1, badForm, badForm}, {2, most + 1, -1, badForm, badForm}, {2, -1, 0, badForm, badForm}, {2, 0, -2, badForm, badForm},
	} {
		l := []api.Limits{{Least: row.least, Most: row.most}}
		what := "limits " + strconv.Itoa(row.least) + " to " + strconv.Itoa(row.most) + " of kind " + strconv.Itoa(row.kind)
		asks(t, what+", imported", ofLimits(row.kind, l, nil), row.asked)
		asks(t, what+", own", ofLimits(row.kind, nil, l), row.own)
	}
}

// Types at their bounds: 32 parameters, one result, and one above; all 256, the last as the first.
func TestTypes(t *testing.T) {
	for k := range 4 {
		of := []int{127 - k}
		for params := range 40 {
			for results := range 4 {
				want := api.OK
				if params > 32 || results > 1 {
					want = badType
				}
				ft := api.FuncType{Params: slices.Repeat(of, params), Results: slices.Repeat(of, results)}
				what := strconv.Itoa(params) + " parameters, " + strconv.Itoa(results) + " results"
				asks(t, what, api.Module{Types: []api.FuncType{ft}, Start: -1}, want)
			}
		}
	}
	for k := range 256 {
		m := api.Module{Types: make([]api.FuncType, 256), Start: -1}
		asks(t, "256 types", m, api.OK)
		m.Types[k].Results = []int{127, 127}
		asks(t, "a wrong type at "+strconv.Itoa(k), m, badType)
	}
}

// A function's type is one of the module's: the last, and one more, of imported functions and of its own.
func TestFuncs(t *testing.T) {
	for _, many := range []int{0, 1, 2, 5, 255, 256} {
		types := make([]api.FuncType, many)
		for _, x := range []int{0, 1, many - 1, many, many + 1, 255, 256, 257, 1 << 16, 1 << 31, 1<<32 - 1} {
			if x < 0 {
				continue
			}
			want := api.OK
			if x >= many {
				want = badFunc
			}
			what := "type " + strconv.Itoa(x) + " of " + strconv.Itoa(many)
			imported := api.Module{Types: types, Imports: []api.Import{{Type: x}}, Start: -1}
			asks(t, what+", imported", imported, want)
			own := api.Module{Types: types, Funcs: []int{x}, Codes: make([]api.Code, 1), Start: -1}
			asks(t, what+", own", own, want)
			// A global's type is no type of a function, nor is an import of another kind.
			own.Imports = []api.Import{{Kind: 3, Type: 127}, {Kind: 1}}
			asks(t, what+", with other imports", own, want)
		}
	}
	m := api.Module{Types: make([]api.FuncType, 1), Funcs: make([]int, 256), Codes: make([]api.Code, 256), Start: -1}
	asks(t, "256 functions", m, api.OK)
	for k := range 256 {
		m.Funcs[k] = 1
		asks(t, "a wrong function at "+strconv.Itoa(k), m, badFunc)
		m.Funcs[k] = 0
	}
}

// A global begins with a constant of its type, or with an imported global that is not mut and of its type.
func TestGlobals(t *testing.T) {
	for kind := 124; kind <= 127; kind++ {
		for other := 124; other <= 127; other++ {
			for _, mut := range []bool{false, true} {
				want, asked := api.OK, api.OK
				if kind != other {
					want, asked = badGlobal, badGlobal
				}
				if mut {
					asked = badGlobal
				}
				what := "a global of type " + strconv.Itoa(kind) + " by one of " + strconv.Itoa(other)
				g := api.Global{Type: kind, Mut: mut, Init: one(65+127-other, 3)}
				asks(t, what, api.Module{Globals: []api.Global{g}, Start: -1}, want)
				g = api.Global{Type: kind, Mut: !mut, Init: get(0)}
				asks(t, what+" that is imported", api.Module{Imports: []api.Import{{Kind: 3, Type: other, Mut: mut}}, Globals: []api.Global{g}, Start: -1}, asked)
				m := api.Module{Globals: []api.Global{{Type: other, Init: one(65+127-other, 0)}, g}, Start: -1}
				asks(t, what+" of the module's own", m, badGlobal)
			}
		}
	}
	// A global may not begin with itself, nor with one behind it.
	asks(t, "a global by itself", api.Module{Globals: []api.Global{{Type: 127, Init: get(0)}}, Start: -1}, badGlobal)
	m := api.Module{Globals: slices.Repeat([]api.Global{{Type: 126, Init: one(66, 1<<63-1)}}, 1024), Start: -1}
	asks(t, "1024 globals", m, api.OK)
	for _, k := range []int{0, 1, 511, 1022, 1023} {
		m.Globals[k].Init = one(65, 1)
		asks(t, "a wrong global at "+strconv.Itoa(k), m, badGlobal)
		m.Globals[k].Init = one(66, 1)
	}
}

// Two exports of one name, wherever these stand, whatever they name; names that are nearly one are two.
func TestExportNames(t *testing.T) {
	names := []string{"", "a", "b", "aa", "A", "a ", "\x00", "a\x00", "\u00e9", "e\u0301", strings.Repeat("n", 64), strings.Repeat("n", 63)}
	for kind := range 4 {
		for other := range 4 {
			m := home()
			m.Exports = nil
			for k, name := range names {
				m.Exports = append(m.Exports, api.Export{Name: name, Kind: []int{kind, other}[k%2]})
			}
			asks(t, "names of all kinds", m, api.OK)
			for k := range names {
				for at := range names {
					twice := m
					twice.Exports = slices.Clone(m.Exports)
					twice.Exports[at].Name = names[k]
					want := badExport
					if at == k {
						want = api.OK
					}
					asks(t, "names "+strconv.Itoa(k)+" and "+strconv.Itoa(at), twice, want)
				}
			}
		}
	}
	m := small()
	for k := range 1024 {
		m.Exports = append(m.Exports, api.Export{Name: strconv.Itoa(k)})
	}
	asks(t, "1024 exports", m, api.OK)
	m.Exports[1023].Name = "0"
	asks(t, "the last name as the first", m, badExport)
	m.Exports[1023] = api.Export{Name: "1023", Index: 1}
	asks(t, "the last export of none", m, badExport)
}

// The last function, table, memory and global that an export may name, and one more; of modules that have none, too.
func TestExportPlaces(t *testing.T) {
	for name, base := range map[string]func() api.Module{"home": home, "asked": asked, "small": small, "empty": func() api.Module { return api.Module{Start: -1} }} {
		s := spaceOf(base())
		for kind, many := range []int{len(s.funcs), len(s.tables), len(s.mems), len(s.globals)} {
			for _, x := range []int{0, 1, 2, many - 1, many, many + 1, 10, 1024, 1 << 31, 1<<32 - 1} {
				m := base()
				m.Exports = []api.Export{{Name: "x", Kind: kind, Index: x}}
				want := api.OK
				if x == -1 {
					want = badForm
				} else if x >= many {
					want = badExport
				}
				asks(t, name+" with an export of kind "+strconv.Itoa(kind)+", "+strconv.Itoa(x), m, want)
				m.Exports = append(m.Exports, api.Export{Name: "y", Kind: kind, Index: x})
				asks(t, name+" with two exports of one thing", m, want)
			}
		}
	}
}

// A start, imported and own: with parameters, with a result, with both, with none, and none at all.
func TestStarts(t *testing.T) {
	types := []api.FuncType{{}, {Params: []int{127}}, {Results: []int{126}}, {Params: []int{124, 124}, Results: []int{125}}, {Params: []int{}, Results: []int{}}}
	bodies := [][]api.Instr{nil, nil, one(66, 0), one(67, 0), nil}
	for k, ft := range types {
		want := badStart
		if k == 0 || k == 4 {
			want = api.OK
		}
		imported := api.Module{Types: types, Imports: []api.Import{{Kind: 3, Type: 127}, {Type: k}}, Start: 0}
		asks(t, "an imported start of type "+strconv.Itoa(k), imported, want)
		imported.Start = 1
		asks(t, "a start behind all", imported, badStart)
		own := api.Module{Types: []api.FuncType{{Params: []int{125}}, ft}, Imports: []api.Import{{Kind: 3, Type: 127}}, Funcs: []int{0, 1}, Codes: []api.Code{{}, {Body: bodies[k]}}, Start: 1}
		asks(t, "a start of its own of type "+strconv.Itoa(k), own, want)
		own.Start = 0
		asks(t, "a first start of its own", own, badStart)
		own.Start = 2
		asks(t, "a start behind all own", own, badStart)
		both := own
		both.Imports, both.Start = []api.Import{{Type: 0}, {Kind: 2}}, 2
		asks(t, "a start behind an import", both, want)
	}
}

// Elements and datas: without a table or a memory, with one that is imported, and with the other alone.
func TestSegments(t *testing.T) {
	limits := api.Limits{Least: 0, Most: 0}
	elems := func(m api.Module) api.Module { m.Elems = []api.Elem{{Offset: one(65, 0)}}; return m }
	datas := func(m api.Module) api.Module { m.Datas = []api.Data{{Offset: one(65, 0)}}; return m }
	none := api.Module{Start: -1}
	asks(t, "elements without a table", elems(none), badElem)
	asks(t, "datas without a memory", datas(none), badData)
	asks(t, "both without either", datas(elems(none)), badElem)
	for kind := range 2 {
		for imported := range 2 {
			l := [][]api.Limits{nil, {limits}}
			m := ofLimits(1+kind, l[imported], l[1-imported])
			wantElems, wantDatas := api.OK, badData
			if kind == 1 {
				wantElems, wantDatas = badElem, api.OK
			}
			asks(t, "elements with one", elems(m), wantElems)
			asks(t, "datas with one", datas(m), wantDatas)
			asks(t, "both with one", datas(elems(m)), max(wantElems, wantDatas))
		}
	}
	// Places and sizes are not held against a table or a memory here.
	m := ofLimits(1, nil, []api.Limits{limits})
	m.Mems = []api.Limits{limits}
	m.Types, m.Imports = make([]api.FuncType, 1), []api.Import{{}}
	m.Elems = []api.Elem{{Offset: one(65, 1<<32-1), Funcs: slices.Repeat([]int{0}, 1024)}}
	m.Datas = []api.Data{{Offset: one(65, 1<<32-1), Bytes: strings.Repeat("x", 5000)}}
	asks(t, "places beyond all", m, api.OK)
	m.Elems[0].Funcs[1023] = 1
	asks(t, "the last function of many", m, badElem)
}

// An element names the last function, and one more, imported ones counted first.
func TestElemFuncs(t *testing.T) {
	for imported := range 4 {
		for own := range 4 {
			for x := range 9 {
				for at := range 3 {
					m := ofLimits(1, nil, []api.Limits{{Most: -1}})
					m.Types, m.Imports = make([]api.FuncType, 1), slices.Repeat([]api.Import{{}}, imported)
					m.Funcs, m.Codes = make([]int, own), make([]api.Code, own)
					fs := make([]int, 3)
					fs[at] = x
					m.Elems = []api.Elem{{Offset: one(65, 0)}, {Offset: one(65, 0), Funcs: fs}}
					want := api.OK
					if x >= imported+own || imported+own == 0 {
						want = badElem
					}
					asks(t, "function "+strconv.Itoa(x)+" of "+strconv.Itoa(imported)+" and "+strconv.Itoa(own), m, want)
				}
			}
		}
	}
}

// Each code is asked for, as that of its own function: the first, the last of many, each of another type.
func TestCodes(t *testing.T) {
	m := api.Module{Types: []api.FuncType{{}, {Results: []int{127}}, {Results: []int{126}}}, Imports: []api.Import{{Type: 2}, {Type: 1}}, Start: -1}
	bodies := [][]api.Instr{nil, one(65, 0), one(66, 0)}
	for k := range 256 {
		m.Funcs = append(m.Funcs, k%3)
		m.Codes = append(m.Codes, api.Code{Body: bodies[k%3]})
	}
	asks(t, "256 codes", m, api.OK)
	for k := range 256 {
		m.Codes[k].Body = bodies[(k+1)%3]
		asks(t, "a wrong code at "+strconv.Itoa(k), m, badCode)
		m.Codes[k].Body = bodies[k%3]
		m.Funcs[k] = (k + 2) % 3
		asks(t, "a wrong type of the code at "+strconv.Itoa(k), m, badCode)
		m.Funcs[k] = k % 3
	}
	// Codes may call what is imported, what is ahead, and themselves.
	for call, want := range map[int]api.Errno{0: badCode, 1: api.OK, 2: badCode, 3: api.OK, 4: badCode, 256: badCode, 257: badCode, 258: badCode, 255: api.OK} {
		m.Codes[1].Body = []api.Instr{{Op: api.OpCall, A: call}}
		asks(t, "a call of "+strconv.Itoa(call), m, want)
	}
}
