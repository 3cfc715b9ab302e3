package ftype

import (
	"math"
	"slices"
	"strconv"
	"sync"
	"testing"

	"pelorus/api"
)

// module gives one with imports of all kinds between one another, some of no kind, and functions whose types are none.
func module() api.Module {
	limits := api.Limits{Least: 1, Most: 2}
	return api.Module{
		Types: []api.FuncType{{}, {Params: []int{127, 126}, Results: []int{125}}, {Params: []int{124}}},
		Imports: []api.Import{
			{Kind: api.KindMem, Limits: limits},
			{Kind: api.KindFunc, Type: 2},
			{Kind: api.KindGlobal, Type: 126, Mut: true},
			{Kind: api.KindTable, Limits: limits},
			{Kind: api.KindFunc, Type: 1},
			{Kind: api.KindFunc, Type: 3},
			{Kind: -1, Type: 1, Mut: true},
			{Kind: 4, Type: 1, Mut: true},
			{Kind: api.KindGlobal, Type: 124},
			{Kind: api.KindTable},
			{Kind: api.KindFunc, Type: 0},
			{Kind: api.KindTable},
			{Kind: api.KindGlobal, Type: 127},
			{Kind: api.KindMem},
		},
		Funcs:   []int{1, 0, -1, 3, 1 << 32, 2},
		Tables:  make([]api.Limits, 4),
		Mems:    make([]api.Limits, 1),
		Globals: []api.Global{{Type: 125}, {Type: 125, Mut: true}, {Type: 126}, {Type: 127, Mut: true}},
	}
}

// copied gives a module of memory of its own.
func copied(m api.Module) api.Module {
	m.Types = slices.Clone(m.Types)
	for k, x := range m.Types {
		m.Types[k] = typeOf(slices.Clone(x.Params), slices.Clone(x.Results))
	}
	m.Imports = slices.Clone(m.Imports)
	m.Funcs = slices.Clone(m.Funcs)
	m.Tables = slices.Clone(m.Tables)
	m.Mems = slices.Clone(m.Mems)
	m.Globals = slices.Clone(m.Globals)
	return m
}

// alike tells whether two modules have the same parts, as far as this layer asks for them.
func alike(a, b api.Module) bool {
	globals := func(x, y api.Global) bool { return x.Type == y.Type && x.Mut == y.Mut }
	return slices.EqualFunc(a.Types, b.Types, same) && slices.Equal(a.Imports, b.Imports) && slices.Equal(a.Funcs, b.Funcs) &&
		slices.Equal(a.Tables, b.Tables) && slices.Equal(a.Mems, b.Mems) && slices.EqualFunc(a.Globals, b.Globals, globals)
}

// checkFunc asks for function k of a module; a type's place that is none of the module's stands for ErrTypeNone.
func checkFunc(t *testing.T, what string, m api.Module, k int, at int) {
	t.Helper()
	got, e := Func(m, k)
	if at < 0 || at >= len(m.Types) {
		if e != api.ErrTypeNone || got.Params != nil || got.Results != nil {
			t.Errorf("P17.2: %s: Func(%d): %v, %d; want none, %d", what, k, got, e, api.ErrTypeNone)
		}
		return
	}
	if e != api.OK || !same(got, m.Types[at]) {
		t.Errorf("P17.2: %s: Func(%d): %v, %d; want %v", what, k, got, e, m.Types[at])
	}
}

// checkGlobal asks for global k of a module.
func checkGlobal(t *testing.T, what string, m api.Module, k int, kind int, mut bool, code api.Errno) {
	t.Helper()
	if x, y, e := Global(m, k); x != kind || y != mut || e != code {
		t.Errorf("P17.2: %s: Global(%d): %d, %v, %d; want %d, %v, %d", what, k, x, y, e, kind, mut, code)
	}
}

// outside are numbers of no thing, where there are n of them.
func outside(n int) []int {
	return []int{-1, -2, -n, -n - 1, -1 << 31, -1 << 32, math.MinInt, math.MinInt + 1, math.MinInt + n, n, n + 1, n + 2, 2*n + 1, 1 << 31, 1 << 32, 1<<32 + n, math.MaxInt - n, math.MaxInt - 1, math.MaxInt}
}

// holds asks for all functions, by their types' places, and all globals of a module, and for those beside them.
func holds(t *testing.T, what string, m api.Module, places []int, globals []api.Global) {
	t.Helper()
	before := copied(m)
	for k, at := range places {
		checkFunc(t, what, m, k, at)
	}
	for _, k := range outside(len(places)) {
		checkFunc(t, what, m, k, -1)
	}
	for k, g := range globals {
		checkGlobal(t, what, m, k, g.Type, g.Mut, api.OK)
	}
	for _, k := range outside(len(globals)) {
		checkGlobal(t, what, m, k, 0, false, api.ErrTypeNone)
	}
	if !alike(m, before) {
		t.Errorf("R4: %s: the module is not as it was", what)
	}
}

// checkCounts asks for a module's counts.
func checkCounts(t *testing.T, what string, m api.Module, funcs, tables, mems, globals int) {
	t.Helper()
	before := copied(m)
	if a, b, c, d := Counts(m); a != funcs || b != tables || c != mems || d != globals {
		t.Errorf("P17.2: %s: Counts: %d, %d, %d, %d; want %d, %d, %d, %d", what, a, b, c, d, funcs, tables, mems, globals)
	}
	if !alike(m, before) {
		t.Errorf("R4: %s: the module is not as it was", what)
	}
}

// Imports and things of the module's own, each alone, both, neither.
func TestModule(t *testing.T) {
	ownFuncs := []int{1, 0, -1, 3, 1 << 32, 2}
	ownGlobals := []api.Global{{Type: 125}, {Type: 125, Mut: true}, {Type: 126}, {Type: 127, Mut: true}}
	givenFuncs := []int{2, 1, 3, 0}
	givenGlobals := []api.Global{{Type: 126, Mut: true}, {Type: 124}, {Type: 127}}

	m := module()
	holds(t, "both", m, slices.Concat(givenFuncs, ownFuncs), slices.Concat(givenGlobals, ownGlobals))
	checkCounts(t, "both", m, 10, 7, 3, 7)

	m = module()
	m.Imports = nil
	holds(t, "no imports", m, ownFuncs, ownGlobals)
	checkCounts(t, "no imports", m, 6, 4, 1, 4)

	m = api.Module{Types: module().Types, Imports: module().Imports}
	holds(t, "imports alone", m, givenFuncs, givenGlobals)
	checkCounts(t, "imports alone", m, 4, 3, 2, 3)

	holds(t, "no content", api.Module{}, nil, nil)
	checkCounts(t, "no content", api.Module{}, 0, 0, 0, 0)
	empty := api.Module{Types: []api.FuncType{}, Imports: []api.Import{}, Funcs: []int{}, Tables: []api.Limits{}, Mems: []api.Limits{}, Globals: []api.Global{}, Start: -1}
	holds(t, "empty lists", empty, nil, nil)
	checkCounts(t, "empty lists", empty, 0, 0, 0, 0)
	holds(t, "types alone", api.Module{Types: module().Types}, nil, nil)
	checkCounts(t, "types alone", api.Module{Types: module().Types}, 0, 0, 0, 0)
	// What is started, exported or coded is no thing of its own.
	other := api.Module{Types: make([]api.FuncType, 1), Start: 0, Exports: make([]api.Export, 3), Codes: make([]api.Code, 3), Elems: make([]api.Elem, 3), Datas: make([]api.Data, 3)}
	holds(t, "codes without functions", other, nil, nil)
	checkCounts(t, "codes without functions", other, 0, 0, 0, 0)
}

// A function's type at the first and the last place, and at places that are none, imported and the module's own.
func TestFuncNoType(t *testing.T) {
	for _, n := range []int{0, 1, 2, 3, 256, 1000} {
		types := make([]api.FuncType, n)
		for k := range types {
			types[k] = typeOf(slices.Repeat([]int{124 + k%4}, k%32), slices.Repeat([]int{127}, k%2))
		}
		for _, at := range append([]int{0, n / 2, n - 1}, outside(n)...) {
			what := "type " + strconv.Itoa(at) + " of " + strconv.Itoa(n)
			given := []api.Import{{Kind: api.KindGlobal, Type: at}, {Type: at}, {Kind: api.KindTable, Type: at}}
			globals := []api.Global{{Type: at}}
			holds(t, what, api.Module{Types: types, Imports: given}, []int{at}, globals)
			holds(t, what, api.Module{Types: types, Funcs: []int{at}}, []int{at}, nil)
			holds(t, what, api.Module{Types: types, Imports: given, Funcs: []int{0, at, n - 1}}, []int{at, 0, at, n - 1}, globals)
		}
	}
}

// Each type, mut and not, imported and the module's own. The chapter names no error of a global whose type is none: it is
// told as it is.
func TestGlobal(t *testing.T) {
	for _, kind := range append(four(), noTypes()...) {
		for _, mut := range []bool{false, true} {
			other := api.Global{Type: 127, Mut: !mut}
			m := api.Module{Imports: []api.Import{{Kind: api.KindGlobal, Type: kind, Mut: mut}}, Globals: []api.Global{other}}
			holds(t, "an imported global", m, nil, []api.Global{{Type: kind, Mut: mut}, other})
			m = api.Module{Imports: []api.Import{{Kind: api.KindGlobal, Type: 127, Mut: !mut}}, Globals: []api.Global{{Type: kind, Mut: mut, Init: []api.Instr{{Op: 1}}}}}
			holds(t, "one of its own", m, nil, []api.Global{other, {Type: kind, Mut: mut}})
		}
	}
}

// Imports of one kind alone; those of no kind are nothing.
func TestCountsOfImports(t *testing.T) {
	kinds := []int{0, 1, 2, 3, 4, 5, -1, -2, 127, 256, 257, 258, 259, 1 << 32, 1<<32 + 3, math.MinInt, math.MinInt + 3, math.MaxInt}
	for _, kind := range kinds {
		for _, n := range []int{1, 2, 1024, 5000} {
			m := api.Module{Types: make([]api.FuncType, 2), Imports: slices.Repeat([]api.Import{{Kind: kind, Type: 1, Mut: true}}, n)}
			var want [4]int
			var places []int
			var globals []api.Global
			switch kind {
			case api.KindFunc:
				places = slices.Repeat([]int{1}, n)
			case api.KindGlobal:
				globals = slices.Repeat([]api.Global{{Type: 1, Mut: true}}, n)
			}
			if kind >= 0 && kind < 4 {
				want[kind] = n
			}
			what := strconv.Itoa(n) + " imports of kind " + strconv.Itoa(kind)
			checkCounts(t, what, m, want[0], want[1], want[2], want[3])
			holds(t, what, m, places, globals)
		}
	}
}

// Things of the module's own, of one kind alone and of all, each list of another length.
func TestCountsOfOwn(t *testing.T) {
	for _, n := range []int{1, 2, 256, 257, 1024, 1025, 1 << 20} {
		checkCounts(t, "functions", api.Module{Funcs: make([]int, n)}, n, 0, 0, 0)
		checkCounts(t, "tables", api.Module{Tables: make([]api.Limits, n)}, 0, n, 0, 0)
		checkCounts(t, "memories", api.Module{Mems: make([]api.Limits, n)}, 0, 0, n, 0)
		checkCounts(t, "globals", api.Module{Globals: make([]api.Global, n)}, 0, 0, 0, n)
		m := api.Module{Funcs: make([]int, n), Tables: make([]api.Limits, n+1), Mems: make([]api.Limits, n+2), Globals: make([]api.Global, n+3)}
		checkCounts(t, "all", m, n, n+1, n+2, n+3)
		m.Imports = []api.Import{{Kind: 3}, {Kind: 3}, {Kind: 1}, {Kind: 0}, {Kind: 3}, {Kind: 2}, {Kind: 4}, {Kind: 2}, {Kind: 3}, {Kind: 1}, {Kind: 1}, {Kind: -1}}
		checkCounts(t, "all, and imports", m, n+1, n+4, n+4, n+7)
	}
}

// rows is a row of numbers.
type rows uint64

// next gives a number from 0 on, below n.
func (r *rows) next(n int) int {
	*r = *r*6364136223846793005 + 1442695040888963407
	return int(uint64(*r) >> 33 % uint64(n))
}

// random gives a module, the types' places of its functions and its globals, in the row in which they are to be told.
func random(r *rows) (api.Module, []int, []api.Global) {
	m := api.Module{Types: make([]api.FuncType, r.next(5))}
	for k := range m.Types {
		m.Types[k] = typeOf(slices.Repeat([]int{124 + r.next(4)}, r.next(4)), slices.Repeat([]int{124 + r.next(4)}, r.next(2)))
	}
	var places []int
	var globals []api.Global
	for range r.next(12) {
		i := api.Import{Kind: r.next(6) - 1, Type: r.next(7) - 1, Mut: r.next(2) == 0}
		m.Imports = append(m.Imports, i)
		switch i.Kind {
		case api.KindFunc:
			places = append(places, i.Type)
		case api.KindGlobal:
			globals = append(globals, api.Global{Type: i.Type, Mut: i.Mut})
		}
	}
	for range r.next(6) {
		m.Funcs = append(m.Funcs, r.next(7)-1)
	}
	for range r.next(6) {
		m.Globals = append(m.Globals, api.Global{Type: 120 + r.next(10), Mut: r.next(2) == 0})
	}
	m.Tables, m.Mems = make([]api.Limits, r.next(4)), make([]api.Limits, r.next(4))
	return m, append(places, m.Funcs...), append(globals, m.Globals...)
}

// Many modules, each held against the rows that were put down beside it.
func TestRandom(t *testing.T) {
	r := rows(17)
	for range 5000 {
		m, places, globals := random(&r)
		holds(t, "a random module", m, places, globals)
		tables, mems := len(m.Tables), len(m.Mems)
		for _, i := range m.Imports {
			switch i.Kind {
			case api.KindTable:
				tables++
			case api.KindMem:
				mems++
			}
		}
		checkCounts(t, "a random module", m, len(places), tables, mems, len(globals))
		if t.Failed() {
			t.Fatalf("%+v", m)
		}
	}
}

// What is answered is new memory: a change of it, or of its spare room, is seen neither in the module, nor in another answer,
// nor in the other list of the same one.
func TestFuncApart(t *testing.T) {
	row := []int{127, 126, 125, 124, 127, 126}
	m := api.Module{
		Types:   []api.FuncType{{Params: row[:2], Results: row[2:3]}, {Params: row[3:3], Results: row[:0]}},
		Imports: []api.Import{{Kind: api.KindMem}, {Type: 0}, {Type: 1}},
		Funcs:   []int{0, 1},
	}
	want := copied(m)
	for k, at := range []int{0, 1, 0, 1} {
		a, _ := Func(m, k)
		b, _ := Func(m, k)
		for _, list := range [][]int{a.Params, a.Results} {
			all := list[:cap(list)]
			for i := range all {
				all[i] = -9
			}
		}
		if !same(b, want.Types[at]) || !alike(m, want) || !slices.Equal(row, []int{127, 126, 125, 124, 127, 126}) {
			t.Errorf("R4: function %d: %v, %v", k, b, row)
		}
		c, _ := Func(m, k)
		_ = append(c.Params, -9, -9, -9)
		if !same(c, want.Types[at]) {
			t.Errorf("R4: function %d: %v", k, c)
		}
	}
}

// A change of the module behind an answer is not seen in it.
func TestFuncKept(t *testing.T) {
	m := module()
	a, _ := Func(m, 1)
	kind, mut, _ := Global(m, 0)
	m.Types[1].Params[0], m.Types[1].Results[0], m.Imports[2] = -9, -9, api.Import{Kind: api.KindMem}
	if !same(a, module().Types[1]) || kind != 126 || !mut {
		t.Errorf("R4: %v, %d, %v", a, kind, mut)
	}
	checkFunc(t, "a changed module", m, 1, 1)
	checkGlobal(t, "a changed module", m, 0, 124, false, api.OK)
}

// Calls from several goroutines answer what one alone does.
func TestAtOneTime(t *testing.T) {
	m := module()
	var all sync.WaitGroup
	for range 8 {
		all.Go(func() {
			for range 1000 {
				checkFunc(t, "at one time", m, 1, 1)
				checkFunc(t, "at one time", m, 9, 2)
				checkGlobal(t, "at one time", m, 6, 127, true, api.OK)
				checkCounts(t, "at one time", m, 10, 7, 3, 7)
			}
		})
	}
	all.Wait()
}

// Each function and each global of a module with as many imports as there may be, within a time that its size explains.
func TestGreat(t *testing.T) {
	m := api.Module{Types: []api.FuncType{{}, {Params: []int{127}}}, Imports: slices.Repeat([]api.Import{{Kind: api.KindGlobal, Type: 127}}, 1024), Funcs: slices.Repeat([]int{1}, 256)}
	for k := range 256 {
		m.Imports[4*k] = api.Import{Type: 0}
		checkFunc(t, "great", m, k, 0)
	}
	for range 40 {
		for k := range 512 {
			checkFunc(t, "great", m, k, k/256)
		}
		for k := range 768 {
			checkGlobal(t, "great", m, k, 127, false, api.OK)
		}
	}
	checkFunc(t, "great", m, 512, -1)
	checkGlobal(t, "great", m, 768, 0, false, api.ErrTypeNone)
	checkCounts(t, "great", m, 512, 0, 0, 768)
}
