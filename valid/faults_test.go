package valid

import (
	"slices"
	"strconv"
	"strings"
	"testing"

	"pelorus/api"
)

// fault is one thing that is not as it must be, put into home or asked.
type fault struct {
	code api.Errno
	what string
	put  func(m *api.Module)
}

// addInit puts a global of an Init behind the others, addElem elements, addData data, addExport an export, addImport an import.
func addInit(kind int, is ...api.Instr) func(m *api.Module) {
	return func(m *api.Module) { m.Globals = append(m.Globals, api.Global{Type: kind, Init: is}) }
}

func addElem(is []api.Instr, fs ...int) func(m *api.Module) {
	return func(m *api.Module) { m.Elems = append(m.Elems, api.Elem{Offset: is, Funcs: fs}) }
}

func addData(is ...api.Instr) func(m *api.Module) {
	return func(m *api.Module) { m.Datas = append(m.Datas, api.Data{Offset: is, Bytes: "x"}) }
}

func addExport(name string, kind, index int) func(m *api.Module) {
	return func(m *api.Module) {
		m.Exports = append(m.Exports, api.Export{Name: name, Kind: kind, Index: index})
	}
}

func addImport(i api.Import) func(m *api.Module) {
	i.Module, i.Name = "late", "late"
	return func(m *api.Module) { m.Imports = append(m.Imports, i) }
}

// addType puts a type behind the others.
func addType(params, results int) func(m *api.Module) {
	return func(m *api.Module) {
		m.Types = append(m.Types, api.FuncType{Params: slices.Repeat([]int{125}, params), Results: slices.Repeat([]int{124}, results)})
	}
}

// setLimits puts limits in place of a table's or a memory's.
func setLimits(kind, least, most int) func(m *api.Module) {
	return func(m *api.Module) { *limitsOf(m, kind) = api.Limits{Least: least, Most: most} }
}

// setBody puts a body in place of a code's; setStart a start.
func setBody(k int, is ...api.Instr) func(m *api.Module) {
	return func(m *api.Module) { m.Codes[k].Body = is }
}

func setStart(k int) func(m *api.Module) { return func(m *api.Module) { m.Start = k } }

// nested gives blocks in one another.
func nested(n int) []api.Instr {
	var is []api.Instr
	for range n {
		is = []api.Instr{{Op: api.OpBlock, Type: 64, Body: is}}
	}
	return is
}

// formFaults are modules that layer 16 refuses, by all that its chapter names.
func formFaults() []fault {
	long, limits := strings.Repeat("n", 65), api.Limits{Least: 1, Most: -1}
	var out []fault
	add := func(what string, put func(m *api.Module)) { out = append(out, fault{badForm, what, put}) }
	add("257 types", func(m *api.Module) { m.Types = slices.Repeat(m.Types[:1], 257) })
	add("1025 imports", func(m *api.Module) { m.Imports = slices.Repeat(m.Imports[:1], 1025) })
	add("257 functions", func(m *api.Module) { m.Funcs, m.Codes = make([]int, 257), make([]api.Code, 257) })
	add("1025 globals", func(m *api.Module) { m.Globals = slices.Repeat(m.Globals[:1], 1025) })
	add("1025 exports", func(m *api.Module) { m.Exports = slices.Repeat(m.Exports[:1], 1025) })
	add("1025 elements", func(m *api.Module) { m.Elems = slices.Repeat(m.Elems[:1], 1025) })
	add("1025 datas", func(m *api.Module) { m.Datas = slices.Repeat(m.Datas[:1], 1025) })
	add("1025 tables", func(m *api.Module) { m.Tables = make([]api.Limits, 1025) })
	add("1025 memories", func(m *api.Module) { m.Mems = make([]api.Limits, 1025) })
	add("257 locals", func(m *api.Module) { m.Codes[0].Locals = slices.Repeat([]int{124}, 257) })
	add("a name that may not be", addExport("\xff", 0, 0))
	add("a name that is long", addExport(long, 0, 0))
	add("an imported name that may not be", func(m *api.Module) { m.Imports[0].Name = "\xff" })
	add("an imported name's module that may not be", func(m *api.Module) { m.Imports[0].Module = long })
	add("a parameter of no type", func(m *api.Module) { m.Types[1].Params[1] = 64 })
	add("a result of no type", func(m *api.Module) { m.Types[1].Results[0] = 0 })
	add("an imported global of no type", func(m *api.Module) { m.Imports[1].Type = 64 })
	add("a global of no type", addInit(123, one(65, 0)...))
	add("a local of no type", func(m *api.Module) { m.Codes[0].Locals = []int{128} })
	add("a block of no type", setBody(0, api.Instr{Op: api.OpBlock, Type: 1}))
	add("an import of no kind", func(m *api.Module) { m.Imports[0].Kind = 4 })
	add("an export of no kind", addExport("x", -1, 0))
	add("an imported function with limits", addImport(api.Import{Limits: limits}))
	add("an imported function that is mut", addImport(api.Import{Mut: true}))
	add("an imported memory of a type", addImport(api.Import{Kind: 2, Type: 127, Limits: limits}))
	add("an imported global with limits", addImport(api.Import{Kind: 3, Type: 127, Limits: limits}))
	add("33 blocks in one another", setBody(0, nested(33)...))
	add("an Op that is none", setBody(0, op(1, 5)...))
	add("an Op that is none in an Init", addInit(127, op(5)...))
	add("an Op that is none in elements", addElem(op(-1)))
	add("an Op that is none in data", addData(op(192)...))
	add("more codes than functions", func(m *api.Module) { m.Codes = append(m.Codes, api.Code{}) })
	add("fewer codes than functions", func(m *api.Module) { m.Codes = m.Codes[:3] })
	add("more functions than codes", func(m *api.Module) { m.Funcs = append(m.Funcs, 0) })
	add("no functions", func(m *api.Module) { m.Funcs = nil })
	add("no codes", func(m *api.Module) { m.Codes = nil })
	add("bytes beyond all", func(m *api.Module) { m.Datas[0].Bytes = strings.Repeat("x", 65536) })
	for _, x := range []int{-2, -1 << 31, -1 << 63, 1 << 32, 1<<32 + 1, 1<<63 - 1} {
		add("start "+strconv.Itoa(x), setStart(x))
		for _, p := range numberFaults(x) {
			add(p.what+" "+strconv.Itoa(x), p.put)
		}
	}
	for _, p := range numberFaults(-1) {
		add(p.what+" -1", p.put)
	}
	for _, kind := range []int{api.KindTable, api.KindMem} {
		add("a Least below 0", setLimits(kind, -1, -1))
		for _, x := range []int{-2, -1 << 63, 1 << 32, 1<<63 - 1} {
			add("a Least of none", setLimits(kind, x, -1))
			add("a Most of none", setLimits(kind, 0, x))
		}
	}
	return out
}

// numberFaults are numbers in each place that is told by one: of a type, a function, a thing, an instruction.
func numberFaults(x int) []fault {
	return []fault{
		{badForm, "an imported function's type", func(m *api.Module) { m.Imports[3].Type = x }},
		{badForm, "a function's type", func(m *api.Module) { m.Funcs[3] = x }},
		{badForm, "an export of a function", addExport("x", 0, x)},
		{badForm, "an export of a table", addExport("x", 1, x)},
		{badForm, "an export of a memory", addExport("x", 2, x)},
		{badForm, "an export of a global", addExport("x", 3, x)},
		{badForm, "a function of elements", addElem(one(65, 0), 0, x)},
		{badForm, "a global of elements", addElem(get(x))},
		{badForm, "a global of data", addData(get(x)...)},
		{badForm, "a global of an Init", addInit(127, get(x)...)},
		{badForm, "a constant", addInit(127, one(65, x)...)},
		{badForm, "a call", setBody(0, api.Instr{Op: api.OpCall, A: x})},
		{badForm, "a call by a table", setBody(0, api.Instr{Op: api.OpI32Const}, api.Instr{Op: api.OpCallIndirect, A: x})},
	}
}

// constFaults are lists that are no constant expressions of a type.
func constFaults(kind int) map[string][]api.Instr {
	right := one(65+127-kind, 0)
	out := map[string][]api.Instr{
		"none": nil, "two": slices.Concat(right, right), "one and OpNop": slices.Concat(right, op(1)), "OpNop": op(1), "OpUnreachable": op(0),
		"two that are added": slices.Concat(right, right, op(106)), "a local": {{Op: api.OpLocalGet}}, "a call": {{Op: api.OpCall, A: 3}},
		"a block": {{Op: api.OpBlock, Type: kind, Body: right}}, "a mut global": get(3), "a mut global of i64": get(1),
		"a global of its own": get(5), "a mut global of its own": get(4), "f32 of its own": get(6), "i64 of its own": get(8), "no global": get(9),
		"no global at all": get(99), "the last number": get(1<<32 - 1), "OpMemorySize": op(63), "OpReturn": op(15),
	}
	for k, name := range []string{"i32", "i64", "f32", "f64"} {
		if 127-k != kind {
			out["a constant of "+name] = one(65+k, 0)
		}
	}
	for k, t := range map[int]int{0: 127, 2: 125} {
		if t != kind {
			out["a global of type "+strconv.Itoa(t)] = get(k)
		}
	}
	return out
}

// restFaults are all others that may be put into home and asked alike.
func restFaults() []fault {
	var out []fault
	add := func(code api.Errno, what string, put func(m *api.Module)) { out = append(out, fault{code, what, put}) }
	for _, n := range []int{33, 34, 256, 1000} {
		add(badType, strconv.Itoa(n)+" parameters", addType(n, 0))
		add(badType, strconv.Itoa(n)+" parameters and a result", addType(n, 1))
	}
	for _, n := range []int{2, 3, 256} {
		add(badType, strconv.Itoa(n)+" results", addType(0, n))
		add(badType, strconv.Itoa(n)+" results and parameters", addType(32, n))
	}
	add(badType, "the first type", func(m *api.Module) { m.Types[0].Results = []int{127, 127} })
	add(badType, "a type in the middle", func(m *api.Module) { m.Types[2].Params = slices.Repeat([]int{127}, 33) })
	for _, x := range []int{5, 6, 256, 1 << 31, 1<<32 - 1} {
		for k := range 4 {
			add(badFunc, "a function's type", func(m *api.Module) { m.Funcs[k] = x })
		}
		add(badFunc, "an imported function's type", func(m *api.Module) { m.Imports[3].Type = x })
		add(badFunc, "the first import's type", func(m *api.Module) { m.Imports[0].Type = x })
		add(badFunc, "one more import's type", addImport(api.Import{Type: x}))
	}
	for kind, code := range map[int]api.Errno{api.KindTable: badTable, api.KindMem: badMem} {
		add(code, "Least above Most", setLimits(kind, 1, 0))
		add(code, "Least above Most", setLimits(kind, 1024, 1023))
		add(code, "one more that is imported", addImport(api.Import{Kind: kind, Limits: api.Limits{Least: 4, Most: 4}}))
		add(code, "a first one that is imported", func(m *api.Module) {
			m.Imports = slices.Insert(m.Imports, 0, api.Import{Kind: kind, Limits: api.Limits{Least: 4, Most: 4}})
		})
	}
	add(badTable, "one more table", func(m *api.Module) { m.Tables = append(m.Tables, api.Limits{Most: -1}) })
	add(badMem, "one more memory", func(m *api.Module) { m.Mems = append(m.Mems, api.Limits{Most: -1}) })
	for _, x := range []int{65537, 65538, 1 << 31, 1<<32 - 1} {
		add(badMem, "a Least beyond all", setLimits(api.KindMem, x, -1))
		add(badMem, "a Most beyond all", setLimits(api.KindMem, 1, x))
		add(badMem, "limits beyond all", setLimits(api.KindMem, x, x))
	}
	for kind := 124; kind <= 127; kind++ {
		for what, is := range constFaults(kind) {
			add(badGlobal, "a global of type "+strconv.Itoa(kind)+", "+what, addInit(kind, is...))
		}
	}
	for what, is := range constFaults(127) {
		add(badElem, "elements at "+what, addElem(is, 0))
		add(badElem, "no elements at "+what, addElem(is))
		add(badData, "data at "+what, addData(is...))
	}
	for _, x := range []int{6, 7, 256, 1 << 31, 1<<32 - 1} {
		add(badElem, "a function that is none", addElem(one(65, 0), x))
		add(badElem, "a last function that is none", addElem(one(65, 0), 0, 5, x))
		add(badElem, "a first function that is none", addElem(get(0), x, 0))
		add(badStart, "a start that is none", setStart(x))
	}
	for _, k := range []int{1, 3, 4, 5} {
		add(badStart, "a start of a wrong type", setStart(k))
	}
	return append(append(out, exportFaults()...), codeFaults()...)
}

// exportFaults are exports that may not be.
func exportFaults() []fault {
	var out []fault
	for kind, many := range []int{6, 1, 1, 9} {
		for _, x := range []int{many, many + 1, 1024, 1 << 31, 1<<32 - 1} {
			out = append(out, fault{badExport, "an export of kind " + strconv.Itoa(kind) + " that is none", addExport("x", kind, x)})
		}
		for _, name := range []string{"f", "t", "m", "g", "", "again"} {
			out = append(out, fault{badExport, "one more export of name " + name, addExport(name, kind, 0)})
		}
	}
	return append(out, fault{badExport, "the first export", func(m *api.Module) { m.Exports[0].Index = 6 }},
		fault{badExport, "the first export's name", func(m *api.Module) { m.Exports[0].Name = "m" }})
}

// codeFaults are codes that layer 18 refuses, by each of its errors but those of form.
func codeFaults() []fault {
	var out []fault
	for what, is := range map[string][]api.Instr{
		"a value that is not there": op(26), "a value that is left": one(65, 0), "another type": slices.Concat(one(66, 0), []api.Instr{{Op: api.OpIf, Type: 64}}),
		"no label": {{Op: api.OpBr, A: 1}}, "no local": {{Op: api.OpLocalGet, A: 9}}, "no function": {{Op: api.OpCall, A: 6}}, "no type": {{Op: api.OpI32Const}, {Op: api.OpCallIndirect, A: 5}},
		"no global": slices.Concat(get(9), op(26)), "an alignment": {{Op: api.OpI32Const}, {Op: api.OpLoad, A: 3}, {Op: api.OpDrop}}, "a global that is not mut": {{Op: api.OpI32Const}, {Op: api.OpGlobalSet, A: 5}},
		"an imported global that is not mut": {{Op: api.OpI32Const}, {Op: api.OpGlobalSet, A: 0}}, "behind OpReturn": append(op(15), api.Instr{Op: api.OpLocalSet, A: 9}),
	} {
		out = append(out, fault{badCode, "the first code: " + what, setBody(0, is...)})
		out = append(out, fault{badCode, "a code in the middle: " + what, setBody(2, is...)})
	}
	return append(out,
		fault{badCode, "no result", setBody(1)}, fault{badCode, "a result of another type", setBody(1, one(66, 0)...)}, fault{badCode, "two results", setBody(3, slices.Concat(one(65, 0), one(65, 0))...)},
		fault{badCode, "a function of another type", func(m *api.Module) { m.Funcs[1], m.Funcs[3] = 4, 2 }},
		fault{badCode, "a local fewer", func(m *api.Module) { m.Codes[0].Locals = m.Codes[0].Locals[:1] }},
		fault{badCode, "a local of another type", func(m *api.Module) { m.Codes[0].Locals[1] = 126 }},
	)
}

// Each fault by itself, in a module of its own table and memory and in one of imported ones.
func TestEachFault(t *testing.T) {
	seen := map[api.Errno]int{}
	for name, base := range both() {
		asks(t, name, base(), api.OK)
		for _, f := range append(formFaults(), restFaults()...) {
			m := base()
			f.put(&m)
			asks(t, name+" with "+f.what, m, f.code)
			if want := judge(m); want != f.code {
				t.Errorf("%s with %s: the tests' own row says %d; want %d", name, f.what, want, f.code)
			}
			seen[f.code]++
		}
	}
	for _, code := range row() {
		if seen[code] < 10 {
			t.Errorf("error %d was asked for %d times", code, seen[code])
		}
	}
}

// lasting are faults that stay, whatever others are put in ahead or behind.
func lasting() []fault {
	return []fault{
		{badForm, "a name", addExport("\xff", 0, 0)}, {badForm, "a code more", func(m *api.Module) { m.Codes = append(m.Codes, api.Code{}) }},
		{badForm, "a kind", addImport(api.Import{Kind: 4})}, {badForm, "a local", func(m *api.Module) { m.Codes[3].Locals = []int{0} }},
		{badType, "results", addType(0, 2)}, {badType, "parameters", func(m *api.Module) { m.Types[3].Params = slices.Repeat([]int{124}, 33) }},
		{badFunc, "a function's type", func(m *api.Module) { m.Funcs[3] = 99 }}, {badFunc, "an import's type", addImport(api.Import{Type: 99})},
		{badTable, "a table more", addImport(api.Import{Kind: 1, Limits: api.Limits{Most: -1}})}, {badTable, "a table's limits", setLimits(1, 4, 3)},
		{badMem, "a memory more", addImport(api.Import{Kind: 2, Limits: api.Limits{Most: -1}})}, {badMem, "a memory's limits", setLimits(2, 1, 65537)},
		{badGlobal, "an Init's type", addInit(127, one(66, 0)...)}, {badGlobal, "a first Init", func(m *api.Module) { m.Globals[0].Init = nil }},
		{badExport, "a name twice", addExport("f", 0, 0)}, {badExport, "a first export", func(m *api.Module) { m.Exports[2].Index = 99 }},
		{badStart, "a start", setStart(1)}, {badStart, "no start", setStart(99)},
		{badElem, "a place", addElem(nil, 0)}, {badElem, "a function", func(m *api.Module) { m.Elems[0].Funcs[0] = 99 }},
		{badData, "a place", addData(get(99)...)}, {badData, "a first place", func(m *api.Module) { m.Datas[0].Offset = one(68, 0) }},
		{badCode, "a first code", setBody(0, op(26)...)}, {badCode, "a last code", func(m *api.Module) { m.Codes[3].Body = append(m.Codes[3].Body, op(26, 26)...) }},
	}
}

// Of two faults the one that comes first in the chapter's row is told, in whichever row they were put in; so of three.
func TestFirstOfFaults(t *testing.T) {
	all := lasting()
	rank := func(f fault) int { return slices.Index(row(), f.code) }
	for name, base := range both() {
		for k, a := range all {
			for _, b := range all {
				m := base()
				a.put(&m)
				b.put(&m)
				asks(t, name+" with "+a.what+" and "+b.what, m, row()[min(rank(a), rank(b))])
				c := all[(k*7+3)%len(all)]
				c.put(&m)
				asks(t, name+" with "+a.what+", "+b.what+" and "+c.what, m, row()[min(rank(a), rank(b), rank(c))])
			}
		}
		// All that come behind one in the row, together with it.
		for from := range all {
			m := base()
			for k := len(all) - 1; k >= from; k-- {
				all[k].put(&m)
			}
			asks(t, name+" with all from "+all[from].what, m, all[from].code)
		}
	}
}
