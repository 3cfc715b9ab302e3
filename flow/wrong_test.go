package flow

import (
	"math"
	"reflect"
	"slices"
	"strconv"
	"strings"
	"sync"
	"testing"

	"pelorus/api"
	"pelorus/ftype"
)

// noKinds are numbers that are none of the four types.
func noKinds() []int {
	return []int{0, 1, -1, 64, 123, 128, 112, 96, 255, -127, -124, 1<<8 + 127, 1<<32 + 127, 1<<32 + 124, anyKind, math.MinInt, math.MaxInt}
}

// Types of functions that may not be, alone and ahead of all other errors.
func TestWrongTypes(t *testing.T) {
	wrong := []api.FuncType{
		typed("ilfdilfdilfdilfdilfdilfdilfdilfdi>"), typed(">ii"), typed("i>il"), typed(">ilf"),
		{Params: make([]int, 1<<20)}, {Results: make([]int, 1<<20)},
		{Params: slices.Repeat([]int{127}, 1<<20)}, {Results: slices.Repeat([]int{127}, 1<<20)},
	}
	for _, x := range noKinds() {
		wrong = append(wrong, api.FuncType{Params: []int{x}}, api.FuncType{Params: []int{127, x}}, api.FuncType{Results: []int{x}}, api.FuncType{Params: append(kindsOf(strings.Repeat("d", 31)), x)})
	}
	for k, ft := range wrong {
		what := "type " + strconv.Itoa(k)
		for _, m := range []api.Module{{}, home()} {
			for _, text := range []string{"", "dead", "drop", "get:0", "i", "br:1", "return"} {
				asks(t, m, ft, api.Code{Body: body(text)}, wrongForm, what)
			}
		}
		asks(t, home(), ft, api.Code{Locals: []int{0}, Body: []api.Instr{{Op: 5}}}, wrongForm, what)
	}
}

// Locals that are none of the four, at each place.
func TestWrongLocals(t *testing.T) {
	for _, x := range noKinds() {
		for _, n := range []int{1, 2, 17, 256} {
			for _, k := range []int{0, n / 2, n - 1} {
				locals := slices.Repeat([]int{124}, n)
				asks(t, home(), typed("i>"), api.Code{Locals: locals}, 0, "locals that may be")
				locals[k] = x
				what := "a local of type " + strconv.Itoa(x)
				asks(t, home(), typed("i>"), api.Code{Locals: locals}, wrongForm, what)
				asks(t, home(), typed("i>"), api.Code{Locals: locals, Body: body("drop")}, wrongForm, what)
				asks(t, api.Module{}, typed(">"), api.Code{Locals: locals, Body: body("get:0")}, wrongForm, what)
			}
		}
	}
	asks(t, home(), typed(">"), api.Code{Locals: make([]int, 1<<20)}, wrongForm, "a million of locals")
}

// wrongInstrs are instructions that layer 14 refuses.
func wrongInstrs() []api.Instr {
	deep := api.Instr{Op: api.OpBlock, Type: 64}
	for range 32 {
		deep = api.Instr{Op: api.OpBlock, Type: 64, Body: []api.Instr{deep}}
	}
	out := []api.Instr{
		deep, {Op: -1}, {Op: 5}, {Op: 6}, {Op: 11}, {Op: 18}, {Op: 25}, {Op: 28}, {Op: 31}, {Op: 37}, {Op: 39}, {Op: 192}, {Op: 255}, {Op: 256}, {Op: 1<<32 + 1},
		{Op: math.MinInt}, {Op: math.MaxInt}, {Op: api.OpBrTable}, {Op: api.OpBlock}, {Op: api.OpBlock, Type: 123}, {Op: api.OpIf, Type: -64}, {Op: api.OpLoop, Type: 1<<32 + 64},
		{Op: api.OpBlock, Type: 64, Else: []api.Instr{{Op: 1}}}, {Op: api.OpLoop, Type: 64, Else: []api.Instr{{Op: 1}}}, {Op: api.OpBlock, Type: 64, Body: []api.Instr{{Op: 5}}},
		{Op: api.OpIf, Type: 64, Else: []api.Instr{{Op: 5}}}, {Op: api.OpNop, A: 1}, {Op: api.OpNop, Body: []api.Instr{{Op: 1}}}, {Op: api.OpDrop, Type: 127}, {Op: api.OpBr, B: 1},
		{Op: api.OpI32Const, Bits: -1}, {Op: api.OpI32Const, Bits: 1 << 32}, {Op: api.OpF32Const, Bits: -1}, {Op: api.OpReturn, Labels: []int{0}}, {Op: api.OpMemorySize, A: 1},
	}
	for _, op := range []int{12, 13, 14, 16, 17, 32, 33, 34, 35, 36, 40, 53, 54, 62} {
		for _, x := range []int{-1, -2, math.MinInt, math.MinInt + 1, 1 << 32, 1<<32 + 1, math.MaxInt} {
			switch {
			case op == 14:
				out = append(out, api.Instr{Op: op, Labels: []int{x}}, api.Instr{Op: op, Labels: []int{0, x, 0}})
			case op >= 40:
				out = append(out, api.Instr{Op: op, A: x}, api.Instr{Op: op, B: x})
			default:
				out = append(out, api.Instr{Op: op, A: x})
			}
		}
	}
	return out
}

// Bodies that layer 14 refuses, wherever the fault stands, ahead of what a walk would find.
func TestWrongBodies(t *testing.T) {
	for k, i := range wrongInstrs() {
		for _, is := range [][]api.Instr{
			{i}, {{Op: 1}, i}, {{Op: 0}, i}, {{Op: api.OpDrop}, i}, {{Op: api.OpBr, A: 9}, i}, {i, {Op: api.OpLocalGet, A: 1<<32 - 1}},
			{{Op: api.OpBlock, Type: 127, Body: []api.Instr{i}}}, {{Op: api.OpIf, Type: 127, Else: []api.Instr{i}}},
		} {
			what := "wrong instruction " + strconv.Itoa(k)
			asks(t, home(), typed("il>"), api.Code{Locals: kindsOf("fd"), Body: is}, wrongForm, what)
			asks(t, api.Module{}, typed(">"), api.Code{Body: is}, wrongForm, what)
		}
	}
}

// Bodies that hold themselves, and very deep and very broad ones, are refused soon.
func TestEndless(t *testing.T) {
	ring := make([]api.Instr, 1)
	ring[0] = api.Instr{Op: api.OpBlock, Type: 64, Body: ring}
	asks(t, home(), typed(">"), api.Code{Body: ring}, wrongForm, "a list that holds itself")
	ring[0] = api.Instr{Op: api.OpIf, Type: 64, Else: ring}
	asks(t, home(), typed(">"), api.Code{Body: ring}, wrongForm, "an Else that holds itself")
	row := make([]api.Instr, 2)
	row[1] = api.Instr{Op: api.OpNop, Body: row}
	asks(t, home(), typed(">"), api.Code{Body: row}, wrongForm, "an OpNop that holds itself")
	deep := []api.Instr{{Op: 1}}
	for range 60000 {
		deep = []api.Instr{{Op: api.OpLoop, Type: 64, Body: deep}}
	}
	asks(t, home(), typed(">"), api.Code{Body: deep}, wrongForm, "60000 blocks in one another")
	broad := []api.Instr{{Op: 1}}
	for range 31 {
		b := api.Instr{Op: api.OpBlock, Type: 64, Body: broad}
		broad = []api.Instr{b, b, b}
	}
	asks(t, home(), typed(">"), api.Code{Body: broad}, wrongForm, "3^31 instructions")
}

// Very great numbers that layer 14 takes.
func TestGreatNumbers(t *testing.T) {
	for _, k := range []string{"6", "255", "256", "1000", "65536", "2147483647", "2147483648", "4294967294", "4294967295"} {
		for _, m := range []api.Module{{}, home()} {
			for _, before := range []string{"", "i ", "dead "} {
				rows(t, m, []row{
					{">", "", before + "get:" + k, wrongIndex},
					{"ilfd>", "il", before + "set:" + k, wrongIndex},
					{"ilfd>", "il", before + "tee:" + k, wrongIndex},
					{">", "", before + "gget:" + k, wrongIndex},
					{">", "", before + "gset:" + k, wrongIndex},
					{">", "", before + "call:" + k, wrongIndex},
					{">", "", before + "indirect:" + k, wrongIndex},
					{">", "", before + "br:" + k, wrongLabel},
					{">", "", before + "brif:" + k, wrongLabel},
					{">", "", before + "table:" + k, wrongLabel},
					{">", "", before + "table:" + k + ",0", wrongLabel},
				})
			}
		}
		rows(t, home(), []row{{">", "", "i #40:" + k, wrongAlign}, {">", "", "i #40:0:" + k + " drop", 1}})
	}
}

// A module without content: what names nothing may be, all else is not there.
func TestNoContent(t *testing.T) {
	for _, m := range []api.Module{{}, {Start: -1, Types: []api.FuncType{}, Imports: []api.Import{}, Funcs: []int{}, Tables: []api.Limits{}, Mems: []api.Limits{}, Globals: []api.Global{}}} {
		for _, p := range plains() {
			name, _, _ := strings.Cut(p.word, ":")
			op := ops()[name]
			if number, ok := strings.CutPrefix(name, "#"); ok {
				op, _ = strconv.Atoi(number)
			}
			want := max(len(p.params), len(p.results))
			if op == 16 || op == 17 || op == 35 || op == 36 || op >= 40 && op <= 64 {
				want = wrongIndex
			}
			rows(t, m, []row{{"ilfd>", "", spaced(p.params) + " " + p.word + drops(len(p.results)), want}})
		}
		rows(t, m, []row{
			{">", "", "", 0},
			{">i", "i", "get:0", 1},
			{">i", "i", "block:i get:0 br:1 end", 1},
			{">", "", "i if return else dead end", 1},
			{">", "", "call:0", wrongIndex},
			{">", "", "i indirect:0", wrongIndex},
			{">", "", "gget:0", wrongIndex},
		})
		asks(t, m, api.FuncType{}, api.Code{}, 0, "no content at all")
		asks(t, m, api.FuncType{Params: []int{}, Results: []int{}}, api.Code{Locals: []int{}, Body: []api.Instr{}}, 0, "empty lists")
	}
}

// Functions whose type is none are not there; a table whose type is none, either.
func TestNamesNothing(t *testing.T) {
	for _, at := range []int{-1, -2, 2, 3, 1 << 31, 1 << 32, math.MinInt, math.MinInt + 1, math.MaxInt} {
		m := api.Module{Types: []api.FuncType{typed(">i"), typed("i>")}, Imports: []api.Import{{Type: at}, {Kind: 3, Type: at}, {Type: 0}}, Funcs: []int{1, at, 0}, Tables: make([]api.Limits, 1)}
		rows(t, m, []row{
			{">", "", "call:0", wrongIndex},
			{">", "", "i call:0", wrongIndex},
			{">i", "", "call:1", 1},
			{">", "", "i call:2", 1},
			{">", "", "call:3", wrongIndex},
			{">i", "", "call:4", 1},
			{">", "", "call:5", wrongIndex},
			{">", "", "i i indirect:1", 2},
			{">", "", "i i indirect:2", wrongIndex},
		})
		m.Types = nil
		rows(t, m, []row{{">", "", "call:1", wrongIndex}, {">", "", "call:2", wrongIndex}, {">", "", "i indirect:0", wrongIndex}})
	}
}

// Globals whose type is none of the four stand as they are: each type is like itself alone, and none is an unknown one.
func TestOddGlobals(t *testing.T) {
	for _, x := range noKinds() {
		if x == anyKind {
			continue // the model's own word for unknown types
		}
		for _, y := range append(noKinds(), 127, 124) {
			m := api.Module{Imports: []api.Import{{Kind: 3, Type: x, Mut: true}}, Globals: []api.Global{{Type: y, Mut: true}}}
			is := func(most int) int { return either(x == y, most, wrongType) }
			ask := func(ft, text string, want int) {
				t.Helper()
				asks(t, m, typed(ft), api.Code{Locals: kindsOf("i"), Body: body(text)}, want, "globals of "+strconv.Itoa(x)+" and "+strconv.Itoa(y)+": "+text)
			}
			ask(">", "gget:0 drop", 1)
			ask(">", "gget:0 gset:0", 1)
			ask(">", "gget:0 gset:1", is(1))
			ask(">", "gget:1 gset:0", is(1))
			ask(">", "gget:0 gget:1 i select drop", is(3))
			ask(">", "gget:0 #69 drop", wrongType)
			ask(">", "gget:0 if end", wrongType)
			ask(">i", "gget:0", wrongType)
			ask(">i", "gget:0 br:0", wrongType)
			ask(">", "gget:0 set:0", wrongType)
			ask(">", "dead gset:0", 0)
			ask(">", "dead gget:0 gset:1", is(1))
			ask(">", "dead gget:0 i select gset:1", is(2))
			ask(">", "dead gget:0 i select #80 drop", wrongType)
			ask(">", "dead select gset:0", 1)
		}
	}
}

// Types that may not be, in a module that was not looked at yet: a call takes and gives all that they have.
func TestOddTypes(t *testing.T) {
	m := api.Module{
		Types:  []api.FuncType{typed(">ilf"), typed("fl>"), {Params: []int{0, -1}, Results: []int{-1, 0}}, typed(">" + strings.Repeat("i", 100)), typed(strings.Repeat("i", 100) + ">"), {Results: []int{0, -1}}},
		Funcs:  []int{0, 1, 2, 3, 4, 5},
		Tables: make([]api.Limits, 1),
	}
	rows(t, m, []row{
		{">", "", "call:0 drop drop drop", 3},
		{">", "", "call:0 drop #80 drop drop", 3},
		{">", "", "call:0 #188 drop #80 drop drop", 3},
		{">", "", "call:0 drop drop #69 drop", 3},
		{">", "", "call:0 #80", wrongType},
		{">", "", "call:0 drop drop", wrongRest},
		{">", "", "call:0 drop drop drop drop", wrongUnder},
		{">i", "", "call:0 drop drop", 3},
		{">f", "", "call:0", wrongRest},
		{">", "", "call:0 call:0 drop drop drop drop drop drop", 6},
		{">", "", "call:0 drop i call:0 drop drop drop drop drop drop", 6},
		{">", "", "call:0 drop block call:0 drop drop drop end drop drop", 5},
		{">", "", "call:0 drop block drop end", wrongUnder},
		{">", "", "call:0 drop block br:0 end drop drop", 3},
		{">", "", "call:0 drop block call:0 drop br:0 end #80 drop drop", 5},
		{">", "", "f l call:1", 2},
		{">", "", "l f call:1", wrongType},
		{">", "", "l call:1", wrongUnder},
		{">", "", "f l i indirect:1", 3},
		{">", "", "i indirect:0 drop drop drop", 3},
		{">", "", "call:5 call:2 drop drop", 2},
		{">", "", "call:5 drop call:2", wrongType},
		{">", "", "call:2", wrongUnder},
		{">", "", "call:3 call:4", 100},
		{">", "", "i call:3 call:4 drop", 101},
		{">", "", "call:3 drop call:4", wrongUnder},
		{">", "", "call:3 drop i call:4", 100},
		{">", "", "call:3 drop l call:4", wrongType},
		{">", "", "call:3 call:3 call:4 call:4", 200},
		{">", "", "dead call:4", 0},
		{">", "", "dead i i call:4", 2},
		{">", "", "dead l i call:4", wrongType},
		{">", "", "dead call:3 drop call:4", 100},
	})
}

// Which functions and globals there are, and of which type and whether they are mut, layer 17 tells the same.
func TestAsLayer17(t *testing.T) {
	r := rnd(17)
	for range 1000 {
		m := api.Module{Types: []api.FuncType{typed(">i"), typed(">l"), typed(">f")}[:r.next(4)]}
		for range r.next(10) {
			m.Imports = append(m.Imports, api.Import{Kind: r.next(6) - 1, Type: r.next(5) - 1, Mut: r.next(2) == 0})
		}
		for range r.next(5) {
			m.Funcs = append(m.Funcs, r.next(5)-1)
			m.Globals = append(m.Globals, api.Global{Type: 124 + r.next(4), Mut: r.next(2) == 0})
		}
		for k := range 18 {
			ft, code := ftype.Func(m, k)
			want := either(code == api.OK, 1, wrongIndex)
			asks(t, m, api.FuncType{Results: ft.Results}, api.Code{Body: []api.Instr{{Op: api.OpCall, A: k}}}, want, "function "+strconv.Itoa(k))
			_, mut, code := ftype.Global(m, k)
			want = either(code != api.OK, wrongIndex, either(mut, 0, wrongMut))
			asks(t, m, typed(">"), api.Code{Body: []api.Instr{{Op: 0}, {Op: api.OpGlobalSet, A: k}}}, want, "global "+strconv.Itoa(k))
		}
		_, tables, mems, _ := ftype.Counts(m)
		rows(t, m, []row{{">", "", "size drop", either(mems > 0, 1, wrongIndex)}, {">", "", "dead indirect:3", wrongIndex}})
		if len(m.Types) > 0 {
			rows(t, m, []row{{">i", "", "i indirect:0", either(tables > 0, 1, wrongIndex)}})
		}
	}
}

// spared gives a list with spare room, which is filled with a mark.
func spared(ts []int) []int {
	out := append(make([]int, 0, len(ts)+9), ts...)
	for k := len(ts); k < cap(out); k++ {
		out[:cap(out)][k] = -99
	}
	return out
}

// sparedHome gives home with spare room in its lists of numbers.
func sparedHome() api.Module {
	m := home()
	for k, x := range m.Types {
		m.Types[k] = api.FuncType{Params: spared(x.Params), Results: spared(x.Results)}
	}
	m.Funcs = spared(m.Funcs)
	return m
}

// What is handed in stays as it was, its spare room too; lists may share their memory.
func TestSpareRoom(t *testing.T) {
	m := sparedHome()
	ft := api.FuncType{Params: spared(kindsOf("il")), Results: spared(kindsOf("d"))}
	c := api.Code{Locals: spared(kindsOf("fd")), Body: append(make([]api.Instr, 0, 99), body("l f d i call:3 drop i l call:0 drop block:d call:2 i brif:0 call:5 d i table:0,1 end")...)}
	c.Body[10].Body[6].Labels = spared([]int{0, 1})
	want := copiedInstrs(c.Body)
	asks(t, m, ft, c, 4, "lists with spare room")
	lists := [][]int{m.Funcs, ft.Params, ft.Results, c.Locals}
	for _, x := range m.Types {
		lists = append(lists, x.Params, x.Results)
	}
	for k, list := range lists {
		for _, x := range list[len(list):cap(list)] {
			if x != -99 {
				t.Errorf("R4: list %d: %v", k, list[:cap(list)])
			}
		}
	}
	if !reflect.DeepEqual(m, sparedHome()) || !reflect.DeepEqual(ft, typed("il>d")) || !reflect.DeepEqual(c.Body, want) || !reflect.DeepEqual(c.Body[len(c.Body):99], make([]api.Instr, 99-len(c.Body))) {
		t.Error("R4: not as it was")
	}
	shared := kindsOf("ilil")
	both := api.FuncType{Params: shared[:2], Results: shared[2:3]}
	asks(t, api.Module{Types: []api.FuncType{both}, Funcs: []int{0}}, both, api.Code{Locals: shared, Body: body("get:0 get:1 call:0 get:2 #106 set:4 get:0")}, 2, "lists of one memory")
	if !slices.Equal(shared, kindsOf("ilil")) {
		t.Errorf("R4: %v", shared)
	}
}

// Calls from several goroutines answer what one alone does, of one module.
func TestAtOneTime(t *testing.T) {
	m := home()
	good, bad := body("i l call:0 block:f i l call:4 br:0 end #146 i if nop else dead end"), body("i l call:0 block:f i brif:9 end")
	var all sync.WaitGroup
	for range 8 {
		all.Go(func() {
			for range 300 {
				asks(t, m, typed(">f"), api.Code{Body: good}, 3, "at one time")
				asks(t, m, typed(">f"), api.Code{Body: bad}, wrongLabel, "at one time")
			}
		})
	}
	all.Wait()
}

// Great modules, types and bodies within a time, and a memory, that their sizes explain.
func TestGreat(t *testing.T) {
	const million = 1 << 20
	m := api.Module{Types: []api.FuncType{{Results: slices.Repeat([]int{127}, million)}, {Params: slices.Repeat([]int{127}, million)}}, Funcs: slices.Repeat([]int{0}, 8192)}
	calls := repeated(8191, api.Instr{Op: api.OpCall})
	for k := range calls {
		calls[k].A = k
	}
	asks(t, m, typed(">"), api.Code{Body: append(calls, api.Instr{Op: 0})}, 8191*million, "8191 calls of a million of results")
	m.Funcs = []int{1, 0}
	asks(t, m, typed(">"), api.Code{Body: append(body("dead"), repeated(8191, api.Instr{Op: api.OpCall})...)}, 0, "8191 calls of a million of parameters")
	asks(t, m, typed(">"), api.Code{Body: slices.Repeat(body("call:1 call:0"), 8)}, million, "a million of values, by turns")
	table := api.Instr{Op: api.OpBrTable, Labels: make([]int, 1024)}
	asks(t, m, typed(">"), api.Code{Body: append(body("dead"), repeated(8191, table)...)}, 0, "8191 tables")
	m = api.Module{Types: []api.FuncType{{}}, Imports: make([]api.Import, million)}
	asks(t, m, typed(">"), api.Code{Body: repeated(8192, api.Instr{Op: api.OpCall, A: million - 1})}, 0, "a million of imports")
	asks(t, m, typed(">"), api.Code{Body: repeated(1, api.Instr{Op: api.OpCall, A: million})}, wrongIndex, "one more")
}
