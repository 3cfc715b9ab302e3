package valid

import (
	"math"
	"reflect"
	"slices"
	"strconv"
	"strings"
	"sync"
	"testing"

	"pelorus/api"
	"pelorus/decode"
	"pelorus/encode"
)

// Numbers below 0 and very great ones, wherever a number stands: a module of another error alone is told by its form.
func TestWrongNumbers(t *testing.T) {
	far := []int{math.MinInt, math.MinInt + 1, -1<<32 - 1, -1 << 32, -1 << 31, -256, -127, -64, -3, -2, -1, 1 << 32, 1<<32 + 1, 1<<32 + 127, 1 << 40, 1 << 62, math.MaxInt - 1, math.MaxInt}
	for name, base := range both() {
		for _, x := range far {
			for _, p := range numberFaults(x) {
				m := base()
				p.put(&m)
				asks(t, name+" with "+p.what+" "+strconv.Itoa(x), m, badForm)
				addType(0, 2)(&m)
				asks(t, name+" with "+p.what+" "+strconv.Itoa(x)+" and results", m, badForm)
			}
			for kind := 1; kind <= 2; kind++ {
				m := base()
				setLimits(kind, x, -1)(&m)
				asks(t, name+" with a Least "+strconv.Itoa(x), m, badForm)
				m = base()
				setLimits(kind, x, x)(&m)
				asks(t, name+" with limits "+strconv.Itoa(x), m, badForm)
				m = base()
				setLimits(kind, 0, x)(&m)
				want := badForm
				if x == -1 {
					want = api.OK
				}
				asks(t, name+" with a Most "+strconv.Itoa(x), m, want)
			}
			m := base()
			m.Start = x
			want := badForm
			if x == -1 {
				want = api.OK
			}
			asks(t, name+" with a start "+strconv.Itoa(x), m, want)
		}
	}
}

// Kinds and types that are none, at each place where one stands; those whose lowest bits are one are none, too.
func TestWrongKinds(t *testing.T) {
	none := []int{-1, -2, 4, 5, 63, 64, 123, 128, 255, 256, 257, 1<<8 + 127, 1<<16 + 3, 1 << 32, 1<<32 + 3, 1<<32 + 127, math.MinInt, math.MinInt + 127, math.MaxInt}
	for name, base := range both() {
		for _, x := range none {
			for what, put := range map[string]func(m *api.Module){
				"an import of kind":         func(m *api.Module) { m.Imports[0].Kind = x },
				"a last import of kind":     addImport(api.Import{Kind: x}),
				"an export of kind":         func(m *api.Module) { m.Exports[0].Kind = x },
				"a last export of kind":     addExport("x", x, 0),
				"an imported global's type": func(m *api.Module) { m.Imports[2].Type = x },
				"a global's type":           func(m *api.Module) { m.Globals[0].Type = x },
				"a parameter":               func(m *api.Module) { m.Types[1].Params[0] = x },
				"a result":                  func(m *api.Module) { m.Types[1].Results[0] = x },
				"a second result":           func(m *api.Module) { m.Types[1].Results = []int{127, x} },
				"a parameter of 33":         func(m *api.Module) { m.Types[1].Params = append(slices.Repeat([]int{127}, 32), x) },
				"a local":                   func(m *api.Module) { m.Codes[0].Locals[0] = x },
			} {
				m := base()
				put(&m)
				asks(t, name+" with "+what+" "+strconv.Itoa(x), m, badForm)
			}
		}
	}
}

// Lists of instructions that hold themselves, are very deep or hold one another many times are refused soon.
func TestEndless(t *testing.T) {
	ring := make([]api.Instr, 2)
	ring[1] = api.Instr{Op: api.OpBlock, Type: 64, Body: ring}
	other := make([]api.Instr, 1)
	other[0] = api.Instr{Op: api.OpIf, Type: 64, Body: nil, Else: other}
	deep := op(1)
	for range 60000 {
		deep = []api.Instr{{Op: api.OpLoop, Type: 64, Body: deep}}
	}
	broad := op(1)
	for range 31 {
		b := api.Instr{Op: api.OpBlock, Type: 64, Body: broad}
		broad = []api.Instr{b, b, b, b}
	}
	for k, is := range [][]api.Instr{ring, other, deep, broad, make([]api.Instr, 1<<18), slices.Repeat(ring, 1000)} {
		for what, put := range map[string]func(m *api.Module){
			"a body": setBody(0, is...), "a last body": setBody(3, is...), "an Init": addInit(127, is...), "elements": addElem(is), "data": addData(is...),
		} {
			m := home()
			put(&m)
			if got := Module(m); got != badForm {
				t.Errorf("P19.1: list %d in %s: %d", k, what, got)
			}
		}
	}
}

// Lists far beyond their bounds, and texts, are refused soon.
func TestFarBeyond(t *testing.T) {
	const many = 1 << 20
	for what, m := range map[string]api.Module{
		"types": {Types: make([]api.FuncType, many)}, "imports": {Imports: make([]api.Import, many)}, "functions": {Funcs: make([]int, many), Codes: make([]api.Code, many)},
		"tables": {Tables: make([]api.Limits, many)}, "memories": {Mems: make([]api.Limits, many)}, "globals": {Globals: make([]api.Global, many)},
		"exports": {Exports: make([]api.Export, many)}, "elements": {Elems: make([]api.Elem, many)}, "datas": {Datas: make([]api.Data, many)},
		"functions alone": {Funcs: make([]int, many)}, "codes alone": {Codes: make([]api.Code, many)}, "bytes": {Datas: []api.Data{{Bytes: strings.Repeat("x", many)}}},
		"parameters": {Types: []api.FuncType{{Params: slices.Repeat([]int{127}, many)}}}, "results": {Types: []api.FuncType{{Results: slices.Repeat([]int{127}, many)}}},
		"a name": {Exports: []api.Export{{Name: strings.Repeat("x", many)}}}, "locals": {Types: make([]api.FuncType, 1), Funcs: make([]int, 1), Codes: []api.Code{{Locals: slices.Repeat([]int{127}, many)}}},
		"elements' functions": {Tables: make([]api.Limits, 1), Elems: []api.Elem{{Offset: one(65, 0), Funcs: make([]int, many)}}},
	} {
		m.Start = -1
		if got := Module(m); got != badForm {
			t.Errorf("P19.1: a million of %s: %d", what, got)
		}
	}
}

// great gives modules that are as great as they may be, each part by itself made to take long.
func great() map[string]api.Module {
	imports := slices.Repeat([]api.Import{{Kind: 3, Type: 127}}, 1023)
	imports = append(imports, api.Import{})
	last := get(1022)
	m := api.Module{Types: make([]api.FuncType, 1), Imports: imports, Tables: make([]api.Limits, 1), Mems: make([]api.Limits, 1), Start: 0}
	m.Globals = slices.Repeat([]api.Global{{Type: 127, Init: last}}, 1024)
	m.Elems = slices.Repeat([]api.Elem{{Offset: last, Funcs: []int{0}}}, 1024)
	m.Datas = slices.Repeat([]api.Data{{Offset: last, Bytes: "x"}}, 1024)
	for k := range 1024 {
		m.Exports = append(m.Exports, api.Export{Name: strconv.Itoa(k), Kind: 3, Index: 2046})
	}
	body := slices.Repeat([]api.Instr{{Op: api.OpGlobalGet, A: 1022}, {Op: api.OpDrop}}, 4000)
	calls := slices.Repeat([]api.Instr{{Op: api.OpCall, A: 1023}}, 8000)
	functions := slices.Repeat([]api.Import{{}}, 1024)
	return map[string]api.Module{
		"parts":   m,
		"globals": {Types: make([]api.FuncType, 1), Imports: imports, Funcs: make([]int, 3), Codes: slices.Repeat([]api.Code{{Body: body}}, 3), Start: -1},
		"calls":   {Types: make([]api.FuncType, 1), Imports: functions, Funcs: make([]int, 2), Codes: slices.Repeat([]api.Code{{Body: calls}}, 2), Start: 1023},
		"codes":   {Types: make([]api.FuncType, 256), Imports: functions, Funcs: slices.Repeat([]int{255}, 256), Codes: slices.Repeat([]api.Code{{Locals: slices.Repeat([]int{124}, 256), Body: calls[:70]}}, 256), Start: 1279},
		"params":  {Types: slices.Repeat([]api.FuncType{{Params: slices.Repeat([]int{124}, 32), Results: []int{124}}}, 256), Imports: slices.Repeat([]api.Import{{Type: 255}}, 1024), Start: -1},
	}
}

// As great as a module may be, it is judged in a time that its size explains.
func TestGreat(t *testing.T) {
	for what, m := range great() {
		if s, code := encode.Module(m); code != api.OK || len(s) < 13000 {
			t.Errorf("%s: %d bytes, %d", what, len(s), code)
		}
		for range 3 {
			asks(t, "a great module of "+what, m, api.OK)
		}
		if len(m.Codes) > 0 {
			k := len(m.Codes) - 1
			m.Codes = slices.Clone(m.Codes)
			m.Codes[k].Body = append(slices.Clone(m.Codes[k].Body), op(26)...)
			asks(t, "a great module of "+what+", wrong at its end", m, badCode)
		}
	}
}

// marked gives a list with spare room, in which a mark stands, and tells whether it still does.
func marked[T any](all []T, mark T) ([]T, func() bool) {
	out := append(slices.Clone(all), mark, mark)
	return out[:len(all)], func() bool {
		return reflect.DeepEqual(out[len(all)], mark) && reflect.DeepEqual(out[len(all)+1], mark)
	}
}

// roomy gives home with spare room in each list, and tells whether all marks still stand there.
func roomy() (api.Module, func() bool) {
	m := home()
	var all []func() bool
	keep := func(f func() bool) { all = append(all, f) }
	ints := func(list *[]int) {
		var f func() bool
		*list, f = marked(*list, -99)
		keep(f)
	}
	instrs := func(list *[]api.Instr) {
		var f func() bool
		*list, f = marked(*list, api.Instr{Op: 99, A: 99})
		keep(f)
	}
	for k := range m.Types {
		ints(&m.Types[k].Params)
		ints(&m.Types[k].Results)
	}
	for k := range m.Globals {
		instrs(&m.Globals[k].Init)
	}
	for k := range m.Elems {
		instrs(&m.Elems[k].Offset)
		ints(&m.Elems[k].Funcs)
	}
	for k := range m.Codes {
		ints(&m.Codes[k].Locals)
		instrs(&m.Codes[k].Body)
	}
	for k := range m.Datas {
		instrs(&m.Datas[k].Offset)
	}
	ints(&m.Funcs)
	fs := make([]func() bool, 9)
	m.Types, fs[0] = marked(m.Types, api.FuncType{Params: []int{99}})
	m.Imports, fs[1] = marked(m.Imports, api.Import{Name: "spare", Kind: 99})
	m.Tables, fs[2] = marked(m.Tables, api.Limits{Least: 99, Most: 98})
	m.Mems, fs[3] = marked(m.Mems, api.Limits{Least: 99, Most: 98})
	m.Globals, fs[4] = marked(m.Globals, api.Global{Type: 99})
	m.Exports, fs[5] = marked(m.Exports, api.Export{Name: "f", Kind: 99})
	m.Elems, fs[6] = marked(m.Elems, api.Elem{Funcs: []int{99}})
	m.Codes, fs[7] = marked(m.Codes, api.Code{Locals: []int{99}})
	m.Datas, fs[8] = marked(m.Datas, api.Data{Bytes: "spare"})
	all = append(all, fs...)
	return m, func() bool { return !slices.ContainsFunc(all, func(f func() bool) bool { return !f() }) }
}

// What is handed in is as it was, its spare room too, whatever is answered; neither is an answer told by what was asked ahead.
func TestUnchanged(t *testing.T) {
	m, stand := roomy()
	asks(t, "lists with spare room", m, api.OK)
	if !stand() || whole(m) != whole(home()) {
		t.Error("R4: something was changed")
	}
	for _, f := range lasting() {
		m, stand := roomy()
		f.put(&m)
		before := whole(m)
		if got := Module(m); got != f.code {
			t.Errorf("P19.1: spare room and %s: %d; want %d", f.what, got, f.code)
		}
		// The fault itself may have been put over a mark.
		if clean := roomyUntouched(f); clean && !stand() || whole(m) != before {
			t.Errorf("R4: %s: something was changed", f.what)
		}
		asks(t, "behind another", home(), api.OK)
	}
}

// roomyUntouched tells whether a fault leaves spare room as it is.
func roomyUntouched(f fault) bool {
	m, stand := roomy()
	f.put(&m)
	return stand()
}

// Lists may share their memory with one another.
func TestShared(t *testing.T) {
	all := []int{127, 127, 127}
	is := one(65, 1)
	m := api.Module{
		Types: []api.FuncType{{Params: all, Results: all[:1]}, {Params: all[1:]}, {Results: all[2:]}}, Funcs: []int{2, 2, 2}, Tables: make([]api.Limits, 1), Mems: make([]api.Limits, 1),
		Globals: []api.Global{{Type: 127, Init: is}, {Type: 127, Init: is}}, Start: -1,
		Elems: []api.Elem{{Offset: is}, {Offset: is}}, Codes: []api.Code{{Locals: all, Body: is}, {Locals: all, Body: is}, {Body: is}}, Datas: []api.Data{{Offset: is}, {Offset: is}},
	}
	asks(t, "lists that share", m, api.OK)
	is[0].Op = api.OpF32Const
	asks(t, "lists that share a wrong thing", m, badGlobal)
}

// Plain calls go on at one time, of one module too.
func TestAtOneTime(t *testing.T) {
	m, stand := roomy()
	faults := lasting()
	var group sync.WaitGroup
	for k := range 8 {
		group.Go(func() {
			for n := range 60 {
				if got := Module(m); got != api.OK {
					t.Errorf("P19.1: at one time: %d", got)
				}
				own, f := asked(), faults[(k*7+n)%len(faults)]
				f.put(&own)
				if got := Module(own); got != f.code {
					t.Errorf("P19.1: at one time: %d; want %d", got, f.code)
				}
			}
		})
	}
	group.Wait()
	if !stand() || whole(m) != whole(home()) {
		t.Error("R4: something was changed")
	}
}

// numbers is a row of numbers.
type numbers uint64

func (r *numbers) below(n int) int {
	*r = *r*6364136223846793005 + 1442695040888963407
	return int(uint64(*r) >> 33 % uint64(n))
}

// number gives a small number mostly, and now and then one at an end.
func (r *numbers) number() int {
	ends := []int{-1, 31, 32, 33, 64, 123, 124, 125, 126, 127, 128, 1023, 1024, 1025, 65535, 65536, 65537, 1<<32 - 1, 1 << 32, -2, math.MinInt, math.MaxInt}
	if r.below(4) == 0 {
		return ends[r.below(len(ends))]
	}
	return r.below(10)
}

// edit changes one thing somewhere in a value: a number, a text, a list, down to a depth.
func (r *numbers) edit(v reflect.Value) {
	switch v.Kind() {
	case reflect.Int:
		v.SetInt(int64(r.number()))
	case reflect.Bool:
		v.SetBool(!v.Bool())
	case reflect.String:
		v.SetString([]string{"", "f", "t", "g", "x", "\xff", strings.Repeat("n", 64+r.below(2))}[r.below(7)])
	case reflect.Struct:
		r.edit(v.Field(r.below(v.NumField())))
	case reflect.Slice:
		r.editList(v)
	}
}

// editList changes an item of a list, takes one out, puts one in, one twice, or one in place of another.
func (r *numbers) editList(v reflect.Value) {
	n := v.Len()
	if n == 0 {
		v.Set(reflect.Append(v, reflect.Zero(v.Type().Elem())))
		return
	}
	k := r.below(n)
	switch r.below(12) {
	case 0:
		v.Set(reflect.AppendSlice(v.Slice3(0, k, k), v.Slice(k+1, n)))
	case 1:
		v.Set(reflect.Append(v, v.Index(k)))
	case 2:
		v.Set(reflect.Append(v, reflect.Zero(v.Type().Elem())))
	case 3:
		v.Index(k).Set(v.Index(r.below(n)))
	default:
		r.edit(v.Index(k))
	}
}

// Modules that were changed at some places are judged as the tests' own row judges them.
func TestEdits(t *testing.T) {
	r := numbers(19)
	seen := map[api.Errno]int{}
	for n := range 20000 {
		m := []func() api.Module{home, asked, small}[n%3]()
		for range 1 + r.below(3) {
			r.edit(reflect.ValueOf(&m).Elem())
		}
		want := judge(m)
		asks(t, "an edited module", m, want)
		seen[want]++
	}
	for _, code := range append(row(), api.OK) {
		if seen[code] < 20 {
			t.Errorf("answer %d was seen %d times", code, seen[code])
		}
	}
}

// Bytes of modules of which some were changed, as far as they are read at all.
func TestEditedBytes(t *testing.T) {
	r := numbers(20)
	var texts []string
	for _, base := range []func() api.Module{home, asked, small} {
		s, _ := encode.Module(base())
		texts = append(texts, s)
	}
	read, valid := 0, 0
	for n := range 30000 {
		s := []byte(texts[n%3])
		for range 1 + r.below(3) {
			k := 8 + r.below(len(s)-8)
			s[k] = byte([]int{r.below(256), int(s[k]) + 1, int(s[k]) - 1, r.below(8), 0x7c + r.below(4)}[r.below(5)])
		}
		m, code := decode.Module(string(s))
		if code != api.OK {
			continue
		}
		read++
		want := judge(m)
		if want == api.OK {
			valid++
		}
		asks(t, "edited bytes", m, want)
	}
	if read < 3000 || valid < 500 {
		t.Errorf("%d of 30000 were read, %d were valid", read, valid)
	}
}
