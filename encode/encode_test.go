package encode

import (
	"slices"
	"strings"
	"sync"
	"testing"
	"unsafe"

	"pelorus/api"
	"pelorus/decode"
)

func TestNoContent(t *testing.T) {
	check(t, api.Module{Start: -1}, begin)
	// Lists of nothing are as none.
	check(t, api.Module{
		Types: []api.FuncType{}, Imports: []api.Import{}, Funcs: []int{}, Tables: []api.Limits{}, Mems: []api.Limits{},
		Globals: []api.Global{}, Exports: []api.Export{}, Start: -1, Elems: []api.Elem{}, Codes: []api.Code{}, Datas: []api.Data{},
	}, begin)
}

// Each item alone in its module; functions and codes go together.
func TestOneItem(t *testing.T) {
	for _, p := range pieces() {
		m, s := whole(paired([]piece{p}), -1)
		check(t, m, s)
		if p.id == 3 || p.id == 10 {
			continue
		}
		if want := begin + sec(p.id, "\x01"+p.bytes); s != want {
			t.Fatalf("the test's own text: %q, want %q", s, want)
		}
	}
	check(t, api.Module{Start: -1, Funcs: []int{3}, Codes: make([]api.Code, 1)}, begin+"\x03\x02\x01\x03\x0a\x04\x01\x02\x00\x0b")
}

// Any two items, of one section or of two, whichever stands ahead.
func TestTwoItems(t *testing.T) {
	all := pieces()
	for _, p := range all {
		for _, q := range all {
			m, s := whole(paired([]piece{p, q}), -1)
			check(t, m, s)
		}
	}
}

// Each section alone, with all of its items, their row turned around, and the same item several times.
func TestSectionsAlone(t *testing.T) {
	for id := 1; id <= 11; id++ {
		if id == 8 {
			continue
		}
		ps := ofSection(id)
		m, s := whole(paired(ps), -1)
		check(t, m, s)
		slices.Reverse(ps)
		m, s = whole(paired(ps), -1)
		check(t, m, s)
		for _, p := range ps {
			m, s = whole(paired(slices.Repeat([]piece{p}, 5)), -1)
			check(t, m, s)
		}
	}
}

func TestSectionsTogether(t *testing.T) {
	m, s := full()
	check(t, m, s)
	// Sections by rising number, each once.
	want := begin
	for _, known := range []struct {
		id      int
		content string
	}{
		{1, "\x01\x60\x00\x00"}, {2, "\x01\x03env\x01f\x00\x05"}, {3, "\x01\x00"}, {4, "\x01\x70\x00\x05"}, {5, "\x01\x00\x01"},
		{6, "\x01\x7f\x01\x41\x7f\x0b"}, {7, "\x01\x01a\x00\x01"}, {8, "\x02"}, {9, "\x01\x00\x41\x00\x0b\x02\x00\x81\x01"},
		{10, "\x01\x02\x00\x0b"}, {11, "\x01\x00\x41\x01\x0b\x03x\x00\xff"},
	} {
		want += sec(known.id, known.content)
	}
	var firsts []piece
	for id := 1; id <= 11; id++ {
		if id != 8 {
			firsts = append(firsts, ofSection(id)[0])
		}
	}
	m, s = whole(firsts, 2)
	if s != want {
		t.Fatalf("the test's own text: %q, want %q", s, want)
	}
	check(t, m, want)
	// Each set of sections.
	for set := range 1 << 10 {
		var ps []piece
		for k, p := range firsts {
			if set>>k&1 == 1 {
				ps = append(ps, p)
			}
		}
		m, s := whole(paired(ps), -1)
		check(t, m, s)
		m, s = whole(paired(ps), 128)
		check(t, m, s)
	}
}

// Items of all sections, in any row.
func TestSome(t *testing.T) {
	r := numbers(1)
	for range 3000 {
		m, s := r.some()
		check(t, m, s)
	}
}

func TestStart(t *testing.T) {
	for x, parts := range map[int]string{0: "\x00", 1: "\x01", 127: "\x7f", 128: "\x80\x01", 1<<32 - 1: "\xff\xff\xff\xff\x0f"} {
		check(t, api.Module{Start: x}, begin+"\x08"+one(len(parts))+parts)
	}
	// The zero value of a module has one.
	check(t, api.Module{}, begin+"\x08\x01\x00")
}

// Imports and exports of all four kinds.
func TestKinds(t *testing.T) {
	limits := api.Limits{Least: 5, Most: 300}
	for kind, i := range []api.Import{{Type: 5}, {Limits: limits}, {Limits: limits}, {Type: 125, Mut: true}} {
		i.Kind, i.Module, i.Name = kind, "m", "n"
		behind := []string{"\x05", "\x70\x01\x05\xac\x02", "\x01\x05\xac\x02", "\x7d\x01"}[kind]
		check(t, api.Module{Start: -1, Imports: []api.Import{i}}, begin+sec(2, "\x01\x01m\x01n"+one(kind)+behind))
		check(t, api.Module{Start: -1, Exports: []api.Export{{Name: "e", Kind: kind, Index: 128}}}, begin+sec(7, "\x01\x01e"+one(kind)+"\x80\x01"))
	}
}

// Most -1 and Most with a number, in all places where limits stand.
func TestLimits(t *testing.T) {
	for _, c := range []struct {
		limits api.Limits
		bytes  string
	}{
		{api.Limits{Most: -1}, "\x00\x00"},
		{api.Limits{}, "\x01\x00\x00"},
		{api.Limits{Least: 1, Most: -1}, "\x00\x01"},
		{api.Limits{Least: 1, Most: 1}, "\x01\x01\x01"},
		{api.Limits{Least: 2, Most: 1}, "\x01\x02\x01"},
		{api.Limits{Least: 1<<32 - 1, Most: -1}, "\x00\xff\xff\xff\xff\x0f"},
		{api.Limits{Least: 1<<32 - 1, Most: 0}, "\x01\xff\xff\xff\xff\x0f\x00"},
		{api.Limits{Least: 0, Most: 1<<32 - 1}, "\x01\x00\xff\xff\xff\xff\x0f"},
		{api.Limits{Least: 65536, Most: 1<<32 - 1}, "\x01\x80\x80\x04\xff\xff\xff\xff\x0f"},
	} {
		check(t, api.Module{Start: -1, Tables: []api.Limits{c.limits}}, begin+sec(4, "\x01\x70"+c.bytes))
		check(t, api.Module{Start: -1, Mems: []api.Limits{c.limits}}, begin+sec(5, "\x01"+c.bytes))
		check(t, api.Module{Start: -1, Imports: []api.Import{{Kind: 1, Limits: c.limits}}}, begin+sec(2, "\x01\x00\x00\x01\x70"+c.bytes))
		check(t, api.Module{Start: -1, Imports: []api.Import{{Kind: 2, Limits: c.limits}}}, begin+sec(2, "\x01\x00\x00\x02"+c.bytes))
	}
}

// bodyOf gives a module of one function, with its code.
func bodyOf(c api.Code) api.Module {
	return api.Module{Start: -1, Funcs: []int{0}, Codes: []api.Code{c}}
}

// checkRuns asks for the runs of a code's locals.
func checkRuns(t *testing.T, locals []int, want string) {
	t.Helper()
	check(t, bodyOf(api.Code{Locals: locals}), begin+sec(3, "\x01\x00")+sec(10, "\x01"+sized(want+"\x0b")))
}

// Locals: none, of one type side by side, of types that change, and that come back.
func TestRuns(t *testing.T) {
	checkRuns(t, nil, "\x00")
	checkRuns(t, []int{}, "\x00")
	for kind := 124; kind <= 127; kind++ {
		checkRuns(t, []int{kind}, "\x01\x01"+one(kind))
		checkRuns(t, []int{kind, kind}, "\x01\x02"+one(kind))
		for _, n := range []int{3, 127, 128, 255, 256} {
			checkRuns(t, slices.Repeat([]int{kind}, n), "\x01"+number(n)+one(kind))
		}
	}
	checkRuns(t, []int{127, 126}, "\x02\x01\x7f\x01\x7e")
	checkRuns(t, []int{127, 127, 126}, "\x02\x02\x7f\x01\x7e")
	checkRuns(t, []int{127, 126, 126}, "\x02\x01\x7f\x02\x7e")
	checkRuns(t, []int{127, 126, 127}, "\x03\x01\x7f\x01\x7e\x01\x7f")
	checkRuns(t, []int{124, 124, 125, 124, 124, 124, 126, 126, 124}, "\x05\x02\x7c\x01\x7d\x03\x7c\x02\x7e\x01\x7c")
	checkRuns(t, []int{127, 126, 125, 124, 127, 126, 125, 124}, "\x08\x01\x7f\x01\x7e\x01\x7d\x01\x7c\x01\x7f\x01\x7e\x01\x7d\x01\x7c")
	checkRuns(t, slices.Repeat([]int{127, 126}, 128), "\x80\x02"+strings.Repeat("\x01\x7f\x01\x7e", 128))
	checkRuns(t, append(slices.Repeat([]int{127}, 255), 126), "\x02\xff\x01\x7f\x01\x7e")
	// A code's runs begin anew.
	two := api.Module{Start: -1, Funcs: []int{0, 0}, Codes: []api.Code{{Locals: []int{127, 127}}, {Locals: []int{127}}}}
	check(t, two, begin+sec(3, "\x02\x00\x00")+sec(10, "\x02\x04\x01\x02\x7f\x0b\x04\x01\x01\x7f\x0b"))
}

// Sizes of sections, codes and datas in as few parts as hold them.
func TestSizes(t *testing.T) {
	for _, n := range []int{0, 1, 120, 121, 122, 123, 124, 125, 126, 127, 128, 129, 300, 8192} {
		nops := slices.Repeat([]api.Instr{{Op: 1}}, n)
		body := "\x00" + strings.Repeat("\x01", n) + "\x0b"
		check(t, bodyOf(api.Code{Body: nops}), begin+"\x03\x02\x01\x00"+sec(10, "\x01"+sized(body)))
	}
	for _, n := range []int{0, 1, 121, 122, 123, 124, 127, 128, 129, 16375, 16376, 16377, 16378, 16379, 16380, 16381, 16383, 16384, 60000} {
		d := strings.Repeat("d", n)
		check(t, api.Module{Start: -1, Datas: []api.Data{{Bytes: d}}}, begin+sec(11, "\x01\x00\x0b"+sized(d)))
	}
}

// span is a piece of memory.
type span struct{ low, high uintptr }

func spanOf(s string) span {
	low := uintptr(unsafe.Pointer(unsafe.StringData(s)))
	return span{low, low + uintptr(len(s))}
}

func (a span) meets(b span) bool { return a.low < b.high && b.low < a.high }

// A text shares no memory with what was handed in, nor with another text.
func TestSharesNothing(t *testing.T) {
	r := numbers(2)
	for range 500 {
		m, _ := r.some()
		m = copied(m)
		a, _ := Module(m)
		b, _ := Module(m)
		parts := []string{b}
		for _, i := range m.Imports {
			parts = append(parts, i.Module, i.Name)
		}
		for _, e := range m.Exports {
			parts = append(parts, e.Name)
		}
		for _, d := range m.Datas {
			parts = append(parts, d.Bytes)
		}
		for _, p := range parts {
			if spanOf(a).meets(spanOf(p)) {
				t.Fatalf("R4: %q and %q share memory", short(a), short(p))
			}
		}
	}
}

// roomy gives a list with spare room, in which there stands something.
func roomy[T any](all []T, spare T) []T {
	return append(slices.Clone(all), spare, spare)[:len(all)]
}

// roomyInstrs gives instructions whose lists all have spare room.
func roomyInstrs(is []api.Instr) []api.Instr {
	out := roomy(is, api.Instr{Op: -7})
	for k := range out {
		out[k].Labels = roomy(out[k].Labels, -7)
		out[k].Body = roomyInstrs(out[k].Body)
		out[k].Else = roomyInstrs(out[k].Else)
	}
	return out
}

// roomyModule gives a module whose lists all have spare room.
func roomyModule(m api.Module) api.Module {
	m.Types = roomy(m.Types, api.FuncType{Params: []int{-7}})
	for k, x := range m.Types {
		m.Types[k] = api.FuncType{Params: roomy(x.Params, -7), Results: roomy(x.Results, -7)}
	}
	m.Imports = roomy(m.Imports, api.Import{Kind: -7})
	m.Funcs = roomy(m.Funcs, -7)
	m.Tables = roomy(m.Tables, api.Limits{Least: -7})
	m.Mems = roomy(m.Mems, api.Limits{Least: -7})
	m.Globals = roomy(m.Globals, api.Global{Type: -7})
	for k := range m.Globals {
		m.Globals[k].Init = roomyInstrs(m.Globals[k].Init)
	}
	m.Exports = roomy(m.Exports, api.Export{Kind: -7})
	m.Elems = roomy(m.Elems, api.Elem{Funcs: []int{-7}})
	for k, x := range m.Elems {
		m.Elems[k] = api.Elem{Offset: roomyInstrs(x.Offset), Funcs: roomy(x.Funcs, -7)}
	}
	m.Codes = roomy(m.Codes, api.Code{Locals: []int{-7}})
	for k, x := range m.Codes {
		m.Codes[k] = api.Code{Locals: roomy(x.Locals, -7), Body: roomyInstrs(x.Body)}
	}
	m.Datas = roomy(m.Datas, api.Data{Bytes: "spare"})
	for k := range m.Datas {
		m.Datas[k].Offset = roomyInstrs(m.Datas[k].Offset)
	}
	return m
}

// spread gives a module with each list up to the end of its spare room.
func spread(m api.Module) api.Module {
	m.Types, m.Imports, m.Funcs = m.Types[:cap(m.Types)], m.Imports[:cap(m.Imports)], m.Funcs[:cap(m.Funcs)]
	m.Tables, m.Mems, m.Globals = m.Tables[:cap(m.Tables)], m.Mems[:cap(m.Mems)], m.Globals[:cap(m.Globals)]
	m.Exports, m.Elems, m.Codes, m.Datas = m.Exports[:cap(m.Exports)], m.Elems[:cap(m.Elems)], m.Codes[:cap(m.Codes)], m.Datas[:cap(m.Datas)]
	m = shallow(m)
	for k, x := range m.Types {
		m.Types[k] = api.FuncType{Params: x.Params[:cap(x.Params)], Results: x.Results[:cap(x.Results)]}
	}
	for k, x := range m.Globals {
		m.Globals[k].Init = spreadInstrs(x.Init)
	}
	for k, x := range m.Elems {
		m.Elems[k] = api.Elem{Offset: spreadInstrs(x.Offset), Funcs: x.Funcs[:cap(x.Funcs)]}
	}
	for k, x := range m.Codes {
		m.Codes[k] = api.Code{Locals: x.Locals[:cap(x.Locals)], Body: spreadInstrs(x.Body)}
	}
	for k, x := range m.Datas {
		m.Datas[k].Offset = spreadInstrs(x.Offset)
	}
	return m
}

// shallow gives a module whose own lists are in new memory.
func shallow(m api.Module) api.Module {
	m.Types, m.Globals, m.Elems = slices.Clone(m.Types), slices.Clone(m.Globals), slices.Clone(m.Elems)
	m.Codes, m.Datas = slices.Clone(m.Codes), slices.Clone(m.Datas)
	return m
}

// spreadInstrs gives instructions with each list up to the end of its spare room.
func spreadInstrs(is []api.Instr) []api.Instr {
	out := slices.Clone(is[:cap(is)])
	for k, i := range out {
		out[k].Labels = i.Labels[:cap(i.Labels)]
		out[k].Body, out[k].Else = spreadInstrs(i.Body), spreadInstrs(i.Else)
	}
	return out
}

// What was handed in is as it was, its spare room too; neither tells of an error that was met.
func TestHandedIn(t *testing.T) {
	r := numbers(3)
	for k := range 300 {
		plain, want := r.some()
		m := roomyModule(plain)
		if k%3 == 0 {
			m.Start, want = -2, ""
		}
		before := copied(spread(m))
		if s, _ := Module(m); s != want {
			t.Fatalf("P16.1: %q, want %q", short(s), short(want))
		}
		if !same(spread(m), before) {
			t.Fatalf("R4: a module was changed: %q", short(want))
		}
	}
}

// Calls at one time do not tell of each other, nor of errors ahead of them; one module may be handed to all.
func TestManyAtOnce(t *testing.T) {
	m, want := full()
	bad := m
	bad.Start = -2
	var all sync.WaitGroup
	for range 8 {
		all.Go(func() {
			for range 50 {
				if s, e := Module(m); e != api.OK || s != want {
					t.Errorf("R5: %q, %d", short(s), e)
				}
				refused(t, "Start -2", bad)
			}
		})
	}
	all.Wait()
}

// A text of whatever form, read and written, is in the canonical form: never longer, and read as the same module.
func TestOtherForms(t *testing.T) {
	r := numbers(4)
	known := 0
	for range 15000 {
		m, s := r.some()
		k := 8 + r.below(max(1, len(s)-8))
		if k < len(s) {
			s = s[:k] + one(int(s[k])^1<<r.below(8)) + s[k+1:]
		}
		back, e := decode.Module(s)
		if e != api.OK {
			continue
		}
		known++
		put, e := Module(back)
		if e != api.OK || len(put) > len(s) {
			t.Fatalf("P16.1: the module of %q: %q, %d", short(s), short(put), e)
		}
		if len(put) == len(s) && put != s {
			t.Fatalf("P16.1: the module of %q: %q, as long, %v", short(s), short(put), m)
		}
		checkBack(t, back, put)
	}
	if known < 2000 {
		t.Errorf("only %d texts were known", known)
	}
}
