package decode

import (
	"slices"
	"strings"
	"sync"
	"testing"
	"unsafe"

	"pelorus/api"
	"pelorus/encode"
)

// part is a section's content with what it is read as.
type part struct {
	id      int
	content string
	fill    func(m *api.Module)
}

// parts gives each section with several items of all kinds.
func parts() []part {
	return []part{
		{1, "\x03\x60\x00\x00\x60\x02\x7f\x7e\x01\x7d\x60\x01\x7c\x02\x7f\x7f", func(m *api.Module) {
			m.Types = []api.FuncType{{}, {Params: []int{127, 126}, Results: []int{125}}, {Params: []int{124}, Results: []int{127, 127}}}
		}},
		{2, "\x08\x03env\x01f\x00\x05\x00\x00\x00\xff\xff\xff\xff\x0f\x01m\x01t\x01\x70\x00\x07\x01m\x01u\x01\x70\x01\x02\x03\x01m\x01y\x02\x00\x80\x01\x01m\x01z\x02\x01\x09\x08\x01m\x01g\x03\x7c\x01\x02\xc3\xa9\x01h\x03\x7f\x00", func(m *api.Module) {
			m.Imports = []api.Import{
				{Module: "env", Name: "f", Kind: 0, Type: 5},
				{Module: "", Name: "", Kind: 0, Type: 1<<32 - 1},
				{Module: "m", Name: "t", Kind: 1, Limits: api.Limits{Least: 7, Most: -1}},
				{Module: "m", Name: "u", Kind: 1, Limits: api.Limits{Least: 2, Most: 3}},
				{Module: "m", Name: "y", Kind: 2, Limits: api.Limits{Least: 128, Most: -1}},
				{Module: "m", Name: "z", Kind: 2, Limits: api.Limits{Least: 9, Most: 8}},
				{Module: "m", Name: "g", Kind: 3, Type: 124, Mut: true},
				{Module: "\u00e9", Name: "h", Kind: 3, Type: 127},
			}
		}},
		{3, "\x02\x03\xff\xff\xff\xff\x0f", func(m *api.Module) { m.Funcs = []int{3, 1<<32 - 1} }},
		{4, "\x02\x70\x00\x05\x70\x01\x06\xff\xff\xff\xff\x0f", func(m *api.Module) {
			m.Tables = []api.Limits{{Least: 5, Most: -1}, {Least: 6, Most: 1<<32 - 1}}
		}},
		{5, "\x03\x00\xff\xff\xff\xff\x0f\x01\x00\x00\x00\x00", func(m *api.Module) {
			m.Mems = []api.Limits{{Least: 1<<32 - 1, Most: -1}, {Least: 0, Most: 0}, {Least: 0, Most: -1}}
		}},
		{6, "\x03\x7f\x01\x41\x7f\x0b\x7e\x00\x42\x05\x01\x0b\x7c\x00\x0b", func(m *api.Module) {
			m.Globals = []api.Global{
				{Type: 127, Mut: true, Init: []api.Instr{{Op: 65, Bits: 1<<32 - 1}}},
				{Type: 126, Init: []api.Instr{{Op: 66, Bits: 5}, {Op: 1}}},
				{Type: 124},
			}
		}},
		{7, "\x05\x01a\x00\x01\x01b\x01\x00\x01c\x02\x80\x01\x01d\x03\xff\xff\xff\xff\x0f\x00\x00\x00", func(m *api.Module) {
			m.Exports = []api.Export{{Name: "a", Index: 1}, {Name: "b", Kind: 1}, {Name: "c", Kind: 2, Index: 128}, {Name: "d", Kind: 3, Index: 1<<32 - 1}, {}}
		}},
		{8, "\x87\x01", func(m *api.Module) { m.Start = 135 }},
		{9, "\x03\x00\x41\x00\x0b\x02\x00\x81\x01\x00\x23\x04\x0b\x00\x00\x0b\x01\x09", func(m *api.Module) {
			m.Elems = []api.Elem{{Offset: []api.Instr{{Op: 65}}, Funcs: []int{0, 129}}, {Offset: []api.Instr{{Op: 35, A: 4}}}, {Funcs: []int{9}}}
		}},
		{10, "\x02\x02\x00\x0b\x0e\x03\x02\x7f\x01\x7e\x01\x7c\x02\x40\x01\x0b\x41\x03\x0b", func(m *api.Module) {
			m.Codes = []api.Code{{}, {Locals: []int{127, 127, 126, 124}, Body: []api.Instr{{Op: 2, Type: 64, Body: []api.Instr{{Op: 1}}}, {Op: 65, Bits: 3}}}}
		}},
		{11, "\x03\x00\x41\x01\x0b\x03x\x00\xff\x00\x0b\x00\x00\x23\x00\x0b\x02\x0b\x0b", func(m *api.Module) {
			m.Datas = []api.Data{{Offset: []api.Instr{{Op: 65, Bits: 1}}, Bytes: "x\x00\xff"}, {}, {Offset: []api.Instr{{Op: 35}}, Bytes: "\x0b\x0b"}}
		}},
	}
}

// whole gives a module of all sections, its text, and the places where its sections end.
func whole() (api.Module, string, []int) {
	m, s := api.Module{Start: -1}, begin
	ends := []int{len(s)}
	for _, p := range parts() {
		p.fill(&m)
		s += sec(p.id, p.content)
		ends = append(ends, len(s))
	}
	return m, s, ends
}

func TestHeadAlone(t *testing.T) {
	check(t, begin, api.Module{Start: -1})
}

// Each section alone: what is not in it stays empty. Functions and codes alone are as many as none of the others.
func TestSectionsAlone(t *testing.T) {
	for _, p := range parts() {
		want := api.Module{Start: -1}
		p.fill(&want)
		if p.id == 3 || p.id == 10 {
			refused(t, begin+sec(p.id, p.content), api.ErrDecodeCounts)
			continue
		}
		checkSec(t, p.id, p.content, want)
	}
	check(t, begin+sec(3, "\x02\x03\x04")+sec(10, "\x02\x02\x00\x0b\x02\x00\x0b"), api.Module{Start: -1, Funcs: []int{3, 4}, Codes: make([]api.Code, 2)})
}

func TestSectionsTogether(t *testing.T) {
	m, s, _ := whole()
	check(t, s, m)
	// Any two of them, in their row.
	all := parts()
	for i, p := range all {
		for _, q := range all[i+1:] {
			want := api.Module{Start: -1}
			p.fill(&want)
			q.fill(&want)
			two := begin + sec(p.id, p.content) + sec(q.id, q.content)
			if len(want.Funcs) != len(want.Codes) {
				refused(t, two, api.ErrDecodeCounts)
				continue
			}
			check(t, two, want)
		}
	}
}

// One item of each kind alone.
func TestOneItem(t *testing.T) {
	checkSec(t, 1, "\x01\x60\x00\x01\x7f", api.Module{Start: -1, Types: []api.FuncType{{Results: []int{127}}}})
	checkSec(t, 2, "\x01\x01m\x01f\x00\x00", api.Module{Start: -1, Imports: []api.Import{{Module: "m", Name: "f"}}})
	checkSec(t, 2, "\x01\x01m\x01t\x01\x70\x00\x00", api.Module{Start: -1, Imports: []api.Import{{Module: "m", Name: "t", Kind: 1, Limits: api.Limits{Most: -1}}}})
	checkSec(t, 2, "\x01\x01m\x01y\x02\x01\x00\x00", api.Module{Start: -1, Imports: []api.Import{{Module: "m", Name: "y", Kind: 2}}})
	checkSec(t, 2, "\x01\x01m\x01g\x03\x7e\x00", api.Module{Start: -1, Imports: []api.Import{{Module: "m", Name: "g", Kind: 3, Type: 126}}})
	check(t, begin+sec(3, "\x01\x00")+sec(10, "\x01\x02\x00\x0b"), api.Module{Start: -1, Funcs: []int{0}, Codes: make([]api.Code, 1)})
	checkSec(t, 4, "\x01\x70\x00\x00", api.Module{Start: -1, Tables: []api.Limits{{Most: -1}}})
	checkSec(t, 5, "\x01\x01\x01\x02", api.Module{Start: -1, Mems: []api.Limits{{Least: 1, Most: 2}}})
	checkSec(t, 6, "\x01\x7d\x00\x43\x00\x00\x80\x3f\x0b", api.Module{Start: -1, Globals: []api.Global{{Type: 125, Init: []api.Instr{{Op: 67, Bits: 0x3f800000}}}}})
	checkSec(t, 7, "\x01\x04main\x00\x02", api.Module{Start: -1, Exports: []api.Export{{Name: "main", Index: 2}}})
	checkSec(t, 8, "\x00", api.Module{})
	checkSec(t, 8, "\xff\xff\xff\xff\x0f", api.Module{Start: 1<<32 - 1})
	checkSec(t, 9, "\x01\x00\x0b\x00", api.Module{Start: -1, Elems: make([]api.Elem, 1)})
	checkSec(t, 11, "\x01\x00\x0b\x01z", api.Module{Start: -1, Datas: []api.Data{{Bytes: "z"}}})
}

// Sections of no items are as none; Start has no such section.
func TestEmptySections(t *testing.T) {
	all := begin
	for id := 1; id <= 11; id++ {
		if id != 8 {
			checkSec(t, id, "\x00", api.Module{Start: -1})
			checkSec(t, id, "\x80\x80\x80\x80\x00", api.Module{Start: -1})
			all += sec(id, "\x00")
		}
	}
	check(t, all, api.Module{Start: -1})
	check(t, begin+sec(3, "\x00")+sec(10, "\x00")+sec(0, "\x00"), api.Module{Start: -1})
}

// Custom sections ahead of, between and behind the others are let go, as many as there are.
func TestCustom(t *testing.T) {
	m, _, _ := whole()
	for _, custom := range []string{
		sec(0, "\x00"),
		sec(0, "\x04name"),
		sec(0, "\x01n\x00\x01\x02\xff\xfe"),
		sec(0, "\x01n") + sec(0, "\x01n"),
		sec(0, "\x02\xc3\xa9"+strings.Repeat("\x0c", 300)),
		sec(0, "\x40"+strings.Repeat("n", 64)+"\xff"),
		"\x00\x84\x80\x80\x80\x00\x81\x00nz",
	} {
		check(t, begin+custom, api.Module{Start: -1})
		s := begin
		for _, p := range parts() {
			s += custom + sec(p.id, p.content)
		}
		check(t, s, m)
		check(t, s+custom, m)
	}
}

// Numbers in longer forms are read wherever a number stands; what else the chapter leaves open may be anyhow too.
func TestOtherForms(t *testing.T) {
	r := numbers(5)
	for range 3000 {
		m := r.module()
		check(t, writer{choose: &r}.module(m), m)
	}
	five := func(x int) string { return longer(x, 5) }
	s := begin + "\x01" + five(16) + five(1) + "\x60" + five(0) + five(0)
	s += "\x03" + five(10) + five(1) + five(7)
	s += "\x09" + five(19) + five(1) + five(0) + "\x41\x80\x00\x0b" + five(0)
	s += "\x0a" + five(22) + five(1) + five(12) + five(1) + five(0) + "\x7f\x0b"
	s += "\x0b" + five(17) + five(1) + five(0) + "\x0b" + five(1) + "z"
	check(t, s, api.Module{Start: -1, Types: make([]api.FuncType, 1), Funcs: []int{7}, Elems: []api.Elem{{Offset: []api.Instr{{Op: 65}}}}, Codes: make([]api.Code, 1), Datas: []api.Data{{Bytes: "z"}}})
}

// Runs of locals: of one type side by side, in pieces, and of none.
func TestRuns(t *testing.T) {
	for runs, want := range map[string][]int{
		"\x00":                                 nil,
		"\x01\x00\x7f":                         nil,
		"\x03\x00\x7f\x00\x7e\x00\x7c":         nil,
		"\x01\x03\x7d":                         {125, 125, 125},
		"\x03\x01\x7f\x01\x7f\x01\x7f":         {127, 127, 127},
		"\x04\x01\x7f\x00\x7e\x02\x7c\x01\x7f": {127, 124, 124, 127},
		"\x04\x01\x7f\x01\x7e\x01\x7d\x01\x7c": {127, 126, 125, 124},
	} {
		check(t, begin+sec(3, "\x01\x00")+sec(10, "\x01"+code(runs+"\x0f\x0b")), api.Module{Start: -1, Funcs: []int{0}, Codes: []api.Code{{Locals: want, Body: []api.Instr{{Op: 15}}}}})
	}
}

// What stands in the canonical form is read as it was.
func TestBack(t *testing.T) {
	r := numbers(7)
	for range 3000 {
		m := r.module()
		s := text(m)
		back, e := Module(s)
		if e != api.OK || !same(back, m) || text(back) != s {
			t.Fatalf("P15.2: %q: %v, %d; want %v", s, back, e, m)
		}
	}
}

// What layer 16 writes is read as it was; it is what the tests' own writer writes, too.
func TestWritten(t *testing.T) {
	m, want, _ := whole()
	written := func(m api.Module, want string) {
		t.Helper()
		s, e := encode.Module(m)
		if e != api.OK || s != want {
			t.Fatalf("P16.1: %q, %d; want %q", short(s), e, short(want))
		}
		check(t, s, m)
	}
	written(m, want)
	for _, p := range parts() {
		m := api.Module{Start: -1}
		p.fill(&m)
		if len(m.Funcs) == len(m.Codes) {
			written(m, begin+sec(p.id, p.content))
		}
	}
	r := numbers(17)
	for range 3000 {
		m := r.module()
		written(m, text(m))
		// A module that was read of another form is written in the canonical one.
		back, _ := Module(writer{choose: &r}.module(m))
		written(back, text(m))
	}
}

// span is a piece of memory.
type span struct {
	low, high uintptr
	what      string
}

func ofText(what, s string) span {
	low := uintptr(unsafe.Pointer(unsafe.StringData(s)))
	return span{low, low + uintptr(len(s)), what}
}

// ofList tells of a list with its spare room.
func ofList[T any](what string, all []T) span {
	var item T
	low := uintptr(unsafe.Pointer(unsafe.SliceData(all)))
	return span{low, low + uintptr(cap(all))*unsafe.Sizeof(item), what}
}

func ofInstrs(what string, is []api.Instr) []span {
	all := []span{ofList(what, is)}
	for _, i := range is {
		all = append(all, ofList(what+": labels", i.Labels))
		all = append(all, ofInstrs(what+": body", i.Body)...)
		all = append(all, ofInstrs(what+": else", i.Else)...)
	}
	return all
}

// ofModule gives each piece of memory that a module has.
func ofModule(m api.Module) []span {
	all := []span{ofList("Types", m.Types), ofList("Imports", m.Imports), ofList("Funcs", m.Funcs), ofList("Tables", m.Tables), ofList("Mems", m.Mems), ofList("Globals", m.Globals), ofList("Exports", m.Exports), ofList("Elems", m.Elems), ofList("Codes", m.Codes), ofList("Datas", m.Datas)}
	for _, x := range m.Types {
		all = append(all, ofList("Params", x.Params), ofList("Results", x.Results))
	}
	for _, x := range m.Imports {
		all = append(all, ofText("an import's module", x.Module), ofText("an import's name", x.Name))
	}
	for _, x := range m.Globals {
		all = append(all, ofInstrs("Init", x.Init)...)
	}
	for _, x := range m.Exports {
		all = append(all, ofText("an export's name", x.Name))
	}
	for _, x := range m.Elems {
		all = append(append(all, ofInstrs("an elem's offset", x.Offset)...), ofList("an elem's functions", x.Funcs))
	}
	for _, x := range m.Codes {
		all = append(append(all, ofInstrs("a code", x.Body)...), ofList("Locals", x.Locals))
	}
	for _, x := range m.Datas {
		all = append(append(all, ofInstrs("a data's offset", x.Offset)...), ofText("a data's bytes", x.Bytes))
	}
	return all
}

// checkApart asks that no two pieces have memory in common.
func checkApart(t *testing.T, all []span) {
	t.Helper()
	all = slices.DeleteFunc(all, func(s span) bool { return s.low == s.high })
	slices.SortFunc(all, func(a, b span) int {
		if a.low < b.low {
			return -1
		}
		return 1
	})
	for k := 1; k < len(all); k++ {
		if all[k].low < all[k-1].high {
			t.Fatalf("R4: %s and %s share memory", all[k-1].what, all[k].what)
		}
	}
}

// Answers share no memory with the text, with one another, nor one list with another.
func TestSharesNothing(t *testing.T) {
	r := numbers(3)
	_, s, _ := whole()
	for range 300 {
		a, _ := Module(s)
		b, _ := Module(s)
		checkApart(t, append(append(ofModule(a), ofModule(b)...), ofText("the text", s)))
		s = writer{choose: &r}.module(r.module())
	}
}

// What was changed in an answer is not seen in another.
func TestAnswersApart(t *testing.T) {
	want, s, _ := whole()
	a, _ := Module(s)
	a.Types[1].Params[0] = -9
	a.Imports[0] = api.Import{}
	a.Funcs[0] = -9
	a.Tables[0], a.Mems[0] = api.Limits{}, api.Limits{}
	a.Globals[0].Init[0].Op = -9
	a.Exports[0].Name = "other"
	a.Elems[0].Funcs[0] = -9
	a.Codes[1].Locals[0] = -9
	a.Codes[1].Body[0].Body[0].Op = -9
	a.Datas[0].Offset[0].Bits = -9
	check(t, s, want)
}

// Calls at one time do not tell of each other, nor of errors ahead of them.
func TestManyAtOnce(t *testing.T) {
	want, s, _ := whole()
	var all sync.WaitGroup
	for k := range 8 {
		all.Go(func() {
			for range 50 {
				check(t, s, want)
				refused(t, s[:len(s)-1-k], api.ErrDecodeCut)
			}
		})
	}
	all.Wait()
}
