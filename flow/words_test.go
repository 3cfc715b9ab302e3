package flow

import (
	"reflect"
	"slices"
	"strconv"
	"strings"
	"testing"

	"pelorus/api"
)

// What the tests share: bodies and types as words, a module, all instructions with the types that they take and give, and the
// chapter's walk written a second time.

// kindOf gives a letter's type: i l f d are the four; kindsOf gives a row of them.
func kindOf(letter byte) int {
	switch letter {
	case 'i':
		return 127
	case 'l':
		return 126
	case 'f':
		return 125
	case 'd':
		return 124
	}
	return 64
}

func kindsOf(letters string) []int {
	var out []int
	for k := range len(letters) {
		out = append(out, kindOf(letters[k]))
	}
	return out
}

// typed gives a function's type of words as "il>f".
func typed(s string) api.FuncType {
	params, results, _ := strings.Cut(s, ">")
	return api.FuncType{Params: kindsOf(params), Results: kindsOf(results)}
}

// ops are the words of instructions that open no block; others are told as "#106", with A and B as "#40:2:8".
func ops() map[string]int {
	return map[string]int{
		"dead": 0, "nop": 1, "br": 12, "brif": 13, "table": 14, "return": 15, "call": 16, "indirect": 17, "drop": 26, "select": 27,
		"get": 32, "set": 33, "tee": 34, "gget": 35, "gset": 36, "size": 63, "grow": 64, "i": 65, "l": 66, "f": 67, "d": 68,
	}
}

// reader reads words.
type reader struct {
	words []string
	ops   map[string]int
}

// body gives the instructions of words; an Op with its numbers behind colons.
func body(s string) []api.Instr {
	is, ok := read(strings.Fields(s))
	if !ok {
		panic("no body: " + s)
	}
	return is
}

// read gives the instructions of words, if these are a body.
func read(words []string) ([]api.Instr, bool) {
	r := &reader{words, ops()}
	is, last := r.list()
	return is, last == "" && len(r.words) == 0
}

// list reads instructions up to the word that ends them: none at the end of all.
func (r *reader) list() ([]api.Instr, string) {
	var out []api.Instr
	for len(r.words) > 0 {
		word := r.words[0]
		r.words = r.words[1:]
		name, rest, _ := strings.Cut(word, ":")
		switch name {
		case "end", "else":
			return out, name
		case "block", "loop", "if":
			i, ok := r.block(name, rest)
			if !ok {
				return nil, "wrong"
			}
			out = append(out, i)
		default:
			out = append(out, r.plain(name, rest))
		}
	}
	return out, ""
}

func (r *reader) block(name, kind string) (api.Instr, bool) {
	i := api.Instr{Op: map[string]int{"block": 2, "loop": 3, "if": 4}[name], Type: 64}
	if kind != "" {
		i.Type = kindOf(kind[0])
	}
	last := ""
	i.Body, last = r.list()
	if last == "else" && i.Op == 4 {
		i.Else, last = r.list()
	}
	return i, last == "end"
}

func (r *reader) plain(name, rest string) api.Instr {
	i := api.Instr{}
	if number, ok := strings.CutPrefix(name, "#"); ok {
		i.Op, _ = strconv.Atoi(number)
	} else if op, ok := r.ops[name]; ok {
		i.Op = op
	} else {
		panic("no word: " + name)
	}
	if name == "table" {
		for _, label := range strings.Split(rest, ",") {
			k, _ := strconv.Atoi(label)
			i.Labels = append(i.Labels, k)
		}
		return i
	}
	a, b, _ := strings.Cut(rest, ":")
	i.A, _ = strconv.Atoi(a)
	i.B, _ = strconv.Atoi(b)
	return i
}

// spaced gives letters as words: constants of these types.
func spaced(letters string) string { return strings.Join(strings.Split(letters, ""), " ") }

// drops gives so many OpDrop.
func drops(n int) string { return strings.Repeat(" drop", n) }

// home gives a module with functions, globals, a table and a memory, imports of all kinds between one another.
//
// Functions: 0 il>f, 1 >, 2 >d, 3 lfdi>l, 4 il>f, 5 d>: the first two are imported, and are types 0, 1, 2, 3, 0, 4.
// Globals: 0 f, 1 l mut, 2 i mut, 3 d, 4 d mut, 5 f mut: the first two are imported.
func home() api.Module {
	return api.Module{
		Types: []api.FuncType{typed("il>f"), typed(">"), typed(">d"), typed("lfdi>l"), typed("d>")},
		Imports: []api.Import{
			{Kind: api.KindGlobal, Type: 125},
			{Kind: api.KindFunc, Type: 0},
			{Kind: api.KindMem, Limits: api.Limits{Least: 1, Most: -1}},
			{Kind: api.KindFunc, Type: 1},
			{Kind: api.KindTable, Limits: api.Limits{Least: 1, Most: -1}},
			{Kind: api.KindGlobal, Type: 126, Mut: true},
		},
		Funcs:   []int{2, 3, 0, 4},
		Globals: []api.Global{{Type: 127, Mut: true}, {Type: 124}, {Type: 124, Mut: true}, {Type: 125, Mut: true}},
		Start:   -1,
	}
}

// plain is an instruction of one type, in home and with the locals "ilfd".
type plain struct {
	word, params, results string
}

// plains gives all instructions that have one type, wherever they stand.
func plains() []plain {
	var out []plain
	for op := range 192 {
		if params, results, ok := strings.Cut(shape(op), ">"); ok {
			out = append(out, plain{"#" + strconv.Itoa(op), params, results})
		}
	}
	for k, letter := range []string{"i", "l", "f", "d"} {
		at := ":" + strconv.Itoa(k)
		out = append(out, plain{"get" + at, "", letter}, plain{"set" + at, letter, ""}, plain{"tee" + at, letter, letter})
	}
	for k, letter := range []string{"f", "l", "i", "d", "d", "f"} {
		out = append(out, plain{"gget:" + strconv.Itoa(k), "", letter})
	}
	for k, letter := range map[int]string{1: "l", 2: "i", 4: "d", 5: "f"} {
		out = append(out, plain{"gset:" + strconv.Itoa(k), letter, ""})
	}
	for k, s := range []string{"il>f", ">", ">d", "lfdi>l", "il>f", "d>"} {
		params, results, _ := strings.Cut(s, ">")
		out = append(out, plain{"call:" + strconv.Itoa(k), params, results})
	}
	for k, s := range []string{"il>f", ">", ">d", "lfdi>l", "d>"} {
		params, results, _ := strings.Cut(s, ">")
		out = append(out, plain{"indirect:" + strconv.Itoa(k), params + "i", results})
	}
	return out
}

// shape gives the type of an operation that is the same in each module that has a memory, as the specification tells it.
func shape(op int) string {
	for _, row := range []struct {
		last int
		is   string
	}{
		{0, ""}, {1, ">"}, {39, ""},
		{40, "i>i"}, {41, "i>l"}, {42, "i>f"}, {43, "i>d"}, {47, "i>i"}, {53, "i>l"},
		{54, "ii>"}, {55, "il>"}, {56, "if>"}, {57, "id>"}, {59, "ii>"}, {62, "il>"}, {63, ">i"}, {64, "i>i"},
		{65, ">i"}, {66, ">l"}, {67, ">f"}, {68, ">d"},
		{69, "i>i"}, {79, "ii>i"}, {80, "l>i"}, {90, "ll>i"}, {96, "ff>i"}, {102, "dd>i"},
		{105, "i>i"}, {120, "ii>i"}, {123, "l>l"}, {138, "ll>l"}, {145, "f>f"}, {152, "ff>f"}, {159, "d>d"}, {166, "dd>d"},
		{167, "l>i"}, {169, "f>i"}, {171, "d>i"}, {173, "i>l"}, {175, "f>l"}, {177, "d>l"}, {179, "i>f"}, {181, "l>f"},
		{182, "d>f"}, {184, "i>d"}, {186, "l>d"}, {187, "f>d"}, {188, "f>i"}, {189, "d>l"}, {190, "i>f"}, {191, "l>d"},
	} {
		if op <= row.last {
			return row.is
		}
	}
	return ""
}

// size gives how many bytes a load or a store has to do with, as a power of 2.
func size(op int) int {
	return [...]int{2, 3, 2, 3, 0, 0, 1, 1, 0, 0, 1, 1, 2, 2, 2, 3, 2, 3, 0, 1, 0, 1, 2}[op-40]
}

// model goes over bodies by recursion: each block has values of its own, of unknown ones the type anyKind.
type model struct {
	m      api.Module
	locals []int
	result []int
	most   int
}

const anyKind = -7777

// modelled gives what Check is to give of a body that layer 14 takes.
func modelled(m api.Module, t api.FuncType, c api.Code) (most int, code api.Errno) {
	defer func() {
		if thrown, ok := recover().(api.Errno); ok {
			most, code = 0, thrown
		}
	}()
	x := &model{m: m, locals: slices.Concat(t.Params, c.Locals), result: t.Results}
	x.list(c.Body, 0, [][]int{t.Results}, t.Results)
	return x.most, api.OK
}

func must(holds bool, code api.Errno) {
	if !holds {
		panic(code)
	}
}

// list goes over a block's list, above so many values; labels are those that are open, the innermost last.
func (x *model) list(is []api.Instr, below int, labels [][]int, results []int) {
	var vs []int
	dead := false
	pop := func(want int) int {
		if len(vs) == 0 {
			must(dead, api.ErrFlowUnder)
			return want
		}
		v := vs[len(vs)-1]
		vs = vs[:len(vs)-1]
		must(v == want || v == anyKind || want == anyKind, api.ErrFlowType)
		if v == anyKind {
			return want
		}
		return v
	}
	pops := func(ts []int) {
		for k := range ts {
			pop(ts[len(ts)-1-k])
		}
	}
	for _, i := range is {
		switch i.Op {
		case 26:
			pop(anyKind)
		case 27:
			pop(127)
			a := pop(anyKind)
			b := pop(a)
			if a == anyKind {
				a = b
			}
			vs = append(vs, a)
		case 2, 3, 4:
			if i.Op == 4 {
				pop(127)
			}
			vs = append(vs, x.block(i, below+len(vs), labels)...)
		default:
			params, given := x.sides(i, labels)
			pops(params)
			vs = append(vs, given...)
			if slices.Contains([]int{0, 12, 14, 15}, i.Op) {
				vs, dead = nil, true
			}
		}
		x.most = max(x.most, below+len(vs))
	}
	pops(results)
	must(len(vs) == 0, api.ErrFlowRest)
}

// block goes over a block's lists, and gives its results.
func (x *model) block(i api.Instr, below int, labels [][]int) []int {
	var results []int
	if i.Type != 64 {
		results = []int{i.Type}
	}
	inner := append(slices.Clone(labels), results)
	if i.Op == 3 {
		inner = append(slices.Clone(labels), nil)
	}
	x.list(i.Body, below, inner, results)
	if i.Op == 4 {
		must(len(i.Else) > 0 || i.Type == 64, api.ErrFlowType)
		x.list(i.Else, below, inner, results)
	}
	return results
}

// sides gives what an instruction takes and gives.
func (x *model) sides(i api.Instr, labels [][]int) ([]int, []int) {
	label := func(k int) []int {
		must(k < len(labels), api.ErrFlowLabel)
		return labels[len(labels)-1-k]
	}
	var funcs []int
	var globals []api.Global
	tables, mems := len(x.m.Tables), len(x.m.Mems)
	for _, g := range x.m.Imports {
		switch g.Kind {
		case 0:
			funcs = append(funcs, g.Type)
		case 1:
			tables++
		case 2:
			mems++
		case 3:
			globals = append(globals, api.Global{Type: g.Type, Mut: g.Mut})
		}
	}
	funcs, globals = append(funcs, x.m.Funcs...), append(globals, x.m.Globals...)
	switch {
	case i.Op == 12:
		return label(i.A), nil
	case i.Op == 13:
		return append(slices.Clone(label(i.A)), 127), label(i.A)
	case i.Op == 14:
		for _, k := range i.Labels {
			label(k)
		}
		last := label(i.Labels[len(i.Labels)-1])
		for _, k := range i.Labels {
			must(slices.Equal(label(k), last), api.ErrFlowType)
		}
		return append(slices.Clone(last), 127), nil
	case i.Op == 15:
		return x.result, nil
	case i.Op == 16:
		must(i.A < len(funcs) && funcs[i.A] >= 0 && funcs[i.A] < len(x.m.Types), api.ErrFlowIndex)
		t := x.m.Types[funcs[i.A]]
		return t.Params, t.Results
	case i.Op == 17:
		must(tables > 0 && i.A < len(x.m.Types), api.ErrFlowIndex)
		t := x.m.Types[i.A]
		return append(slices.Clone(t.Params), 127), t.Results
	case i.Op >= 32 && i.Op <= 34:
		must(i.A < len(x.locals), api.ErrFlowIndex)
		one := []int{x.locals[i.A]}
		return [][]int{nil, one, one}[i.Op-32], [][]int{one, nil, one}[i.Op-32]
	case i.Op == 35:
		must(i.A < len(globals), api.ErrFlowIndex)
		return nil, []int{globals[i.A].Type}
	case i.Op == 36:
		must(i.A < len(globals), api.ErrFlowIndex)
		must(globals[i.A].Mut, api.ErrFlowMut)
		return []int{globals[i.A].Type}, nil
	case i.Op >= 40 && i.Op <= 64:
		must(mems > 0, api.ErrFlowIndex)
		must(i.Op > 62 || i.A <= size(i.Op), api.ErrFlowAlign)
	}
	t := typed(shape(i.Op))
	return t.Params, t.Results
}

// copiedInstrs gives instructions in memory of their own.
func copiedInstrs(is []api.Instr) []api.Instr {
	out := slices.Clone(is)
	for k := range out {
		out[k].Labels = slices.Clone(out[k].Labels)
		out[k].Body, out[k].Else = copiedInstrs(out[k].Body), copiedInstrs(out[k].Else)
	}
	return out
}

// wanted gives what Check is to give of what a row tells: most values, or an error, which is below 0.
func wanted(want int) (int, api.Errno) { return max(want, 0), api.Errno(max(-want, 0)) }

// asks asks one Check.
func asks(t *testing.T, m api.Module, ft api.FuncType, c api.Code, want int, what string) {
	t.Helper()
	most, code := wanted(want)
	if got, e := Check(m, ft, c); got != most || e != code {
		t.Errorf("P18.1: %s: %d, %d; want %d, %d", what, got, e, most, code)
	}
}

// either gives one of two numbers.
func either(holds bool, one, other int) int {
	if holds {
		return one
	}
	return other
}

// row is a body of words in a function of a type and with locals of its own, and what Check is to give: most values, or an
// error, which is below 0.
type row struct {
	ft, locals, body string
	want             int
}

// rows asks rows of a module, and holds what is wanted against the model too.
func rows(t *testing.T, m api.Module, all []row) {
	t.Helper()
	for _, r := range all {
		ft, c := typed(r.ft), api.Code{Locals: kindsOf(r.locals), Body: body(r.body)}
		before := api.Code{Locals: slices.Clone(c.Locals), Body: copiedInstrs(c.Body)}
		asks(t, m, ft, c, r.want, r.ft+", "+r.locals+": "+r.body)
		if !reflect.DeepEqual(c, before) || !reflect.DeepEqual(ft, typed(r.ft)) {
			t.Errorf("R4: %s: not as it was", r.body)
		}
		if most, e := modelled(m, ft, c); most-int(e) != r.want {
			t.Errorf("the model: %s, %s: %s: %d, %d", r.ft, r.locals, r.body, most, e)
		}
	}
}
