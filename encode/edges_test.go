package encode

import (
	"slices"
	"strings"
	"testing"

	"pelorus/api"
	"pelorus/decode"
)

// bound is a list's: how long it may be, a module with one of so many items, and that list of a module.
type bound struct {
	what string
	most int
	with func(n int) api.Module
	many func(m api.Module) int
}

// bounds gives all lists but those of functions and codes, which go together, and of locals.
func bounds() []bound {
	return []bound{
		{"types", 256, func(n int) api.Module { return api.Module{Start: -1, Types: make([]api.FuncType, n)} }, func(m api.Module) int { return len(m.Types) }},
		{"parameters", 1024, func(n int) api.Module {
			return api.Module{Start: -1, Types: []api.FuncType{{}, {Params: slices.Repeat([]int{127}, n)}}}
		}, func(m api.Module) int { return len(m.Types[1].Params) }},
		{"results", 1024, func(n int) api.Module {
			return api.Module{Start: -1, Types: []api.FuncType{{}, {Results: slices.Repeat([]int{124}, n)}}}
		}, func(m api.Module) int { return len(m.Types[1].Results) }},
		{"imports", 1024, func(n int) api.Module { return api.Module{Start: -1, Imports: make([]api.Import, n)} }, func(m api.Module) int { return len(m.Imports) }},
		{"tables", 1024, func(n int) api.Module { return api.Module{Start: -1, Tables: make([]api.Limits, n)} }, func(m api.Module) int { return len(m.Tables) }},
		{"memories", 1024, func(n int) api.Module { return api.Module{Start: -1, Mems: make([]api.Limits, n)} }, func(m api.Module) int { return len(m.Mems) }},
		{"globals", 1024, func(n int) api.Module {
			return api.Module{Start: -1, Globals: slices.Repeat([]api.Global{{Type: 127}}, n)}
		}, func(m api.Module) int { return len(m.Globals) }},
		{"exports", 1024, func(n int) api.Module { return api.Module{Start: -1, Exports: make([]api.Export, n)} }, func(m api.Module) int { return len(m.Exports) }},
		{"elements", 1024, func(n int) api.Module { return api.Module{Start: -1, Elems: make([]api.Elem, n)} }, func(m api.Module) int { return len(m.Elems) }},
		{"an element's functions", 1024, func(n int) api.Module {
			return api.Module{Start: -1, Elems: []api.Elem{{}, {Funcs: make([]int, n)}}}
		}, func(m api.Module) int { return len(m.Elems[1].Funcs) }},
		{"datas", 1024, func(n int) api.Module { return api.Module{Start: -1, Datas: make([]api.Data, n)} }, func(m api.Module) int { return len(m.Datas) }},
	}
}

// Each list as long as it may be, and longer.
func TestLists(t *testing.T) {
	for _, b := range bounds() {
		for _, n := range []int{0, 1, 127, 128, 255, 256, 257, 1023, 1024, b.most - 1, b.most} {
			if n > b.most {
				continue
			}
			m := b.with(n)
			s, e := Module(m)
			if back, code := decode.Module(s); e != api.OK || code != api.OK || b.many(back) != n {
				t.Errorf("P16.1: %d %s: %d, read with %d", n, b.what, e, code)
			}
			taken(t, b.what, m)
		}
		for _, n := range []int{b.most + 1, b.most + 2, 2 * b.most, 5000, 65536, 1 << 20} {
			refused(t, b.what+" beyond the bound", b.with(n))
		}
	}
}

// Functions and codes, which go together.
func TestFunctions(t *testing.T) {
	for _, n := range []int{0, 1, 2, 127, 128, 255, 256} {
		m := api.Module{Start: -1, Funcs: slices.Repeat([]int{3}, n), Codes: make([]api.Code, n)}
		want := begin
		if n > 0 {
			want += sec(3, items(n, "\x03")) + sec(10, items(n, "\x02\x00\x0b"))
		}
		check(t, m, want)
	}
	for _, n := range []int{257, 258, 512, 1024, 1025, 1 << 20} {
		refused(t, "functions and codes beyond the bound", api.Module{Start: -1, Funcs: make([]int, n), Codes: make([]api.Code, n)})
	}
}

// Functions without codes, and codes without functions.
func TestCounts(t *testing.T) {
	for _, n := range []int{0, 1, 2, 3, 255, 256, 257} {
		for _, k := range []int{0, 1, 2, 3, 255, 256, 257} {
			m := api.Module{Start: -1, Funcs: make([]int, n), Codes: make([]api.Code, k)}
			if n == k && n < 257 {
				taken(t, "as many functions as codes", m)
			} else {
				refused(t, "functions and codes", m)
			}
		}
	}
	// Imported functions have no codes.
	taken(t, "an imported function", api.Module{Start: -1, Imports: []api.Import{{Name: "f"}}})
	refused(t, "a code for an imported function", api.Module{Start: -1, Imports: []api.Import{{Name: "f"}}, Codes: make([]api.Code, 1)})
}

func TestLocals(t *testing.T) {
	rows := map[string]func(n int) []int{
		"of one type": func(n int) []int { return slices.Repeat([]int{126}, n) },
		"changing": func(n int) []int {
			return slices.Repeat([]int{127, 126}, (n+1)/2)[:n]
		},
		"in two runs": func(n int) []int { return append(slices.Repeat([]int{127}, n-1), 124) },
	}
	for what, row := range rows {
		for _, n := range []int{1, 2, 127, 128, 254, 255, 256} {
			taken(t, "locals "+what, bodyOf(api.Code{Locals: row(n)}))
		}
		for _, n := range []int{257, 258, 512, 1024, 1025, 65536, 1 << 20} {
			refused(t, "too many locals "+what, bodyOf(api.Code{Locals: row(n)}))
		}
	}
	// A code's locals are counted anew.
	m := api.Module{Start: -1, Funcs: make([]int, 256), Codes: slices.Repeat([]api.Code{{Locals: slices.Repeat([]int{125}, 256)}}, 256)}
	check(t, m, begin+sec(3, items(256, "\x00"))+sec(10, items(256, "\x05\x01\x80\x02\x7d\x0b")))
	m.Codes[255].Locals = slices.Repeat([]int{125}, 257)
	refused(t, "too many locals in the last code", m)
}

// namePlace is a place where a name stands.
type namePlace struct {
	what string
	with func(s string) api.Module
	text func(s string) string
}

func namePlaces() []namePlace {
	return []namePlace{
		{"an import's module", func(s string) api.Module {
			return api.Module{Start: -1, Imports: []api.Import{{Module: s, Name: "f"}}}
		}, func(s string) string { return sec(2, "\x01"+sized(s)+"\x01f\x00\x00") }},
		{"an import's name", func(s string) api.Module {
			return api.Module{Start: -1, Imports: []api.Import{{Module: "m", Name: s, Kind: 3, Type: 127}}}
		}, func(s string) string { return sec(2, "\x01\x01m"+sized(s)+"\x03\x7f\x00") }},
		{"an export's name", func(s string) api.Module {
			return api.Module{Start: -1, Exports: []api.Export{{Name: s, Kind: 2}}}
		}, func(s string) string { return sec(7, "\x01"+sized(s)+"\x02\x00") }},
		{"a second export's name", func(s string) api.Module {
			return api.Module{Start: -1, Exports: []api.Export{{Name: "e"}, {Name: s, Index: 5}}}
		}, func(s string) string { return sec(7, "\x02\x01e\x00\x00"+sized(s)+"\x00\x05") }},
	}
}

// Names as long as they may be and one longer, and texts that are none.
func TestNames(t *testing.T) {
	for _, p := range namePlaces() {
		for _, s := range []string{"", "a", "\x00", "a\x00b", "\u00e9", "\uffff", "\U0010ffff", strings.Repeat("n", 63), strings.Repeat("n", 64), strings.Repeat("\u00e9", 32), strings.Repeat("\U0001f600", 16)} {
			check(t, p.with(s), begin+p.text(s))
		}
		for _, s := range []string{strings.Repeat("n", 65), strings.Repeat("n", 66), strings.Repeat("\u00e9", 33), strings.Repeat("\U0001f600", 17), strings.Repeat("n", 127), strings.Repeat("n", 128), strings.Repeat("n", 1<<20)} {
			refused(t, p.what+", too long", p.with(s))
		}
		for _, s := range []string{"\xff", "a\x80", "\x80", "\xc0\x80", "\xc3", "\xe0\x80\x80", "\xed\xa0\x80", "\xf0\x80\x80\x80", "\xf4\x90\x80\x80", "\xf8\x88\x80\x80\x80", strings.Repeat("n", 63) + "\xc3", strings.Repeat("\xff", 65)} {
			refused(t, p.what+", no name", p.with(s))
		}
	}
}

// instrPlace is a place where instructions stand.
type instrPlace struct {
	what string
	with func(is []api.Instr) api.Module
	text func(s string) string
}

func instrPlaces() []instrPlace {
	return []instrPlace{
		{"a global", func(is []api.Instr) api.Module {
			return api.Module{Start: -1, Globals: []api.Global{{Type: 126, Init: is}}}
		}, func(s string) string { return sec(6, "\x01\x7e\x00"+s) }},
		{"an element", func(is []api.Instr) api.Module {
			return api.Module{Start: -1, Elems: []api.Elem{{Offset: is, Funcs: []int{5}}}}
		}, func(s string) string { return sec(9, "\x01\x00"+s+"\x01\x05") }},
		{"a code", func(is []api.Instr) api.Module { return bodyOf(api.Code{Locals: []int{127}, Body: is}) }, func(s string) string {
			return sec(3, "\x01\x00") + sec(10, "\x01"+sized("\x01\x01\x7f"+s))
		}},
		{"a data", func(is []api.Instr) api.Module {
			return api.Module{Start: -1, Datas: []api.Data{{Offset: is, Bytes: "xy"}}}
		}, func(s string) string { return sec(11, "\x01\x00"+s+"\x02xy") }},
		{"a second global", func(is []api.Instr) api.Module {
			return api.Module{Start: -1, Globals: []api.Global{{Type: 127}, {Type: 126, Mut: true, Init: is}}}
		}, func(s string) string { return sec(6, "\x02\x7f\x00\x0b\x7e\x01"+s) }},
	}
}

// nested gives blocks of an Op in one another, and some instruction in the innermost.
func nested(op, deep int) []api.Instr {
	is := []api.Instr{{Op: 1}}
	for range deep {
		is = []api.Instr{{Op: op, Type: 64, Body: is}}
	}
	return is
}

// nestedElse gives OpIfs whose Else holds the next one.
func nestedElse(deep int) []api.Instr {
	is := []api.Instr{{Op: 1}}
	for range deep {
		is = []api.Instr{{Op: 4, Type: 64, Else: is}}
	}
	return is
}

// Blocks as deep as they may be and one deeper; as many instructions as there may be and one more; as many labels.
func TestInstructions(t *testing.T) {
	nops := func(n int) []api.Instr { return slices.Repeat([]api.Instr{{Op: 1}}, n) }
	labels := func(n int) []api.Instr { return []api.Instr{{Op: 14, Labels: make([]int, n)}} }
	ends := func(n int) string { return strings.Repeat("\x0b", n) }
	for _, p := range instrPlaces() {
		for _, n := range []int{1, 31, 32} {
			check(t, p.with(nested(2, n)), begin+p.text(strings.Repeat("\x02\x40", n)+"\x01"+ends(n+1)))
			check(t, p.with(nested(3, n)), begin+p.text(strings.Repeat("\x03\x40", n)+"\x01"+ends(n+1)))
			check(t, p.with(nested(4, n)), begin+p.text(strings.Repeat("\x04\x40", n)+"\x01"+ends(n+1)))
			check(t, p.with(nestedElse(n)), begin+p.text(strings.Repeat("\x04\x40\x05", n)+"\x01"+ends(n+1)))
		}
		for _, n := range []int{33, 34, 100, 5000} {
			refused(t, "too deep in "+p.what, p.with(nested(2, n)))
			refused(t, "too deep in "+p.what, p.with(nested(3, n)))
			refused(t, "too deep in "+p.what, p.with(nested(4, n)))
			refused(t, "too deep in "+p.what, p.with(nestedElse(n)))
		}
		check(t, p.with(nil), begin+p.text("\x0b"))
		check(t, p.with([]api.Instr{}), begin+p.text("\x0b"))
		check(t, p.with(nops(8192)), begin+p.text(strings.Repeat("\x01", 8192)+"\x0b"))
		refused(t, "too many instructions in "+p.what, p.with(nops(8193)))
		refused(t, "too many instructions in "+p.what, p.with([]api.Instr{{Op: 2, Type: 64, Body: nops(8192)}}))
		check(t, p.with(labels(1024)), begin+p.text("\x0e\xff\x07"+strings.Repeat("\x00", 1024)+"\x0b"))
		refused(t, "too many labels in "+p.what, p.with(labels(1025)))
		check(t, p.with([]api.Instr{{Op: 4, Type: 127, Else: []api.Instr{}}}), begin+p.text("\x04\x7f\x0b\x0b"))
	}
}

// grown is a module that comes to one byte more with each step.
type grown struct {
	what string
	with func(n int) api.Module
}

// growths gives modules whose greatest section is each of those that may be great.
func growths() []grown {
	nops := func(n int) []api.Instr { return slices.Repeat([]api.Instr{{Op: 1}}, n) }
	return []grown{
		{"types", func(n int) api.Module {
			return api.Module{Start: -1, Types: append(slices.Repeat([]api.FuncType{{Params: slices.Repeat([]int{127}, 1000)}}, 65), api.FuncType{Results: slices.Repeat([]int{126}, n)})}
		}},
		{"imports", func(n int) api.Module {
			i := api.Import{Module: strings.Repeat("m", 60), Name: strings.Repeat("n", 64), Kind: 3, Type: 127}
			return api.Module{Start: -1, Imports: append(slices.Repeat([]api.Import{i}, 507), api.Import{Module: strings.Repeat("m", 60), Name: strings.Repeat("n", n)})}
		}},
		{"globals", func(n int) api.Module {
			return api.Module{Start: -1, Globals: append(slices.Repeat([]api.Global{{Type: 127, Init: nops(8000)}}, 8), api.Global{Type: 127, Init: nops(n)})}
		}},
		{"exports", func(n int) api.Module {
			return api.Module{Start: 9, Exports: append(slices.Repeat([]api.Export{{Name: strings.Repeat("e", 60), Index: 1<<32 - 1}}, 977), api.Export{Name: strings.Repeat("e", n)})}
		}},
		{"elements", func(n int) api.Module {
			return api.Module{Start: -1, Elems: append(slices.Repeat([]api.Elem{{Funcs: make([]int, 1000)}}, 65), api.Elem{Funcs: make([]int, n)})}
		}},
		{"codes", func(n int) api.Module {
			return api.Module{Start: -1, Funcs: make([]int, 9), Codes: append(slices.Repeat([]api.Code{{Body: nops(8000)}}, 8), api.Code{Body: nops(n)})}
		}},
		{"locals", func(n int) api.Module {
			return api.Module{Start: -1, Funcs: make([]int, 128), Codes: append(slices.Repeat([]api.Code{{Locals: slices.Repeat([]int{127, 126}, 127)}}, 127), api.Code{Body: nops(n)})}
		}},
		{"datas", func(n int) api.Module {
			return api.Module{Start: -1, Datas: []api.Data{{Bytes: strings.Repeat("d", 65000)}, {Bytes: strings.Repeat("d", n)}}}
		}},
		{"a data's offset", func(n int) api.Module {
			return api.Module{Start: -1, Datas: append(slices.Repeat([]api.Data{{Offset: nops(8000)}}, 8), api.Data{Offset: nops(n)})}
		}},
		{"all sections", func(n int) api.Module {
			m, _ := full()
			m.Datas = append(m.Datas, api.Data{Bytes: strings.Repeat("d", 60000+n)})
			return m
		}},
	}
}

// length gives how many bytes a module comes to.
func length(t *testing.T, what string, m api.Module) int {
	t.Helper()
	s, e := Module(m)
	if e != api.OK {
		t.Fatalf("P16.1: %s: %d", what, e)
	}
	return len(s)
}

// A text of MaxBytes bytes, and of one more, whichever section is great.
func TestMostBytes(t *testing.T) {
	for _, g := range growths() {
		n := 0
		has := length(t, g.what, g.with(n))
		for has < 65536 {
			// Most of the way in one step: what tells how many there are takes a few bytes more by then.
			n += max(1, 65536-has-8)
			has = length(t, g.what, g.with(n))
		}
		if has != 65536 {
			t.Errorf("%s: the text comes to %d bytes, not to 65536", g.what, has)
		}
		taken(t, g.what, g.with(n))
		for more := 1; more < 6; more++ {
			refused(t, g.what+" beyond the bound", g.with(n+more))
		}
	}
}

// A data to a text's last byte, and what stands ahead of it one byte longer.
func TestLastByte(t *testing.T) {
	d := strings.Repeat("d", 65536-8-4-6)
	m := api.Module{Start: -1, Datas: []api.Data{{Bytes: d}}}
	check(t, m, begin+"\x0b\xf4\xff\x03\x01\x00\x0b\xee\xff\x03"+d)
	longer := m
	longer.Datas = []api.Data{{Bytes: d + "d"}}
	refused(t, "a data one byte longer", longer)
	ahead := m
	ahead.Start = 0
	refused(t, "a start ahead of it", ahead)
	wide := m
	wide.Datas = []api.Data{{Offset: []api.Instr{{Op: 1}}, Bytes: d}}
	refused(t, "an offset one byte longer", wide)
}

// What comes to far more than a text may have, by parts that share their memory, or has no end, is refused soon.
func TestGreatest(t *testing.T) {
	jumps := slices.Repeat([]api.Instr{{Op: 14, Labels: slices.Repeat([]int{1<<32 - 1}, 1024)}}, 8192)
	endless := []api.Instr{{Op: 2, Type: 64}, {Op: 1}}
	endless[0].Body = endless
	long := strings.Repeat("d", 1<<26)
	for what, m := range map[string]api.Module{
		"types":        {Start: -1, Types: slices.Repeat([]api.FuncType{{Params: slices.Repeat([]int{127}, 1024), Results: slices.Repeat([]int{127}, 1024)}}, 256)},
		"globals":      {Start: -1, Globals: slices.Repeat([]api.Global{{Type: 127, Init: jumps}}, 1024)},
		"elements":     {Start: -1, Elems: slices.Repeat([]api.Elem{{Offset: jumps, Funcs: make([]int, 1024)}}, 1024)},
		"functions":    {Start: -1, Elems: slices.Repeat([]api.Elem{{Funcs: slices.Repeat([]int{1<<32 - 1}, 1024)}}, 1024)},
		"codes":        {Start: -1, Funcs: make([]int, 256), Codes: slices.Repeat([]api.Code{{Locals: slices.Repeat([]int{127, 126}, 128), Body: jumps}}, 256)},
		"datas":        {Start: -1, Datas: slices.Repeat([]api.Data{{Bytes: long}}, 1024)},
		"offsets":      {Start: -1, Datas: slices.Repeat([]api.Data{{Offset: jumps}}, 1024)},
		"names":        {Start: -1, Exports: slices.Repeat([]api.Export{{Name: long}}, 1024)},
		"endless":      {Start: -1, Globals: []api.Global{{Type: 127, Init: endless}}},
		"endless code": {Start: -1, Funcs: make([]int, 256), Codes: slices.Repeat([]api.Code{{Body: endless}}, 256)},
	} {
		refused(t, what, m)
	}
}
