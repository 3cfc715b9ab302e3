package decode

import (
	"slices"
	"strings"
	"testing"

	"pelorus/api"
)

// filled gives a text of so many bytes, the last of them a custom section's.
func filled(front string, size int) string {
	rest := size - len(front) - 4
	return front + "\x00" + longer(rest, 3) + "\x00" + strings.Repeat("\xff", rest-1)
}

func TestMostBytes(t *testing.T) {
	m, s, _ := whole()
	check(t, filled(begin, 65535), api.Module{Start: -1})
	check(t, filled(begin, 65536), api.Module{Start: -1})
	check(t, filled(s, 65536), m)
	refused(t, filled(begin, 65537), api.ErrDecodeLong)
	refused(t, filled(s, 65537), api.ErrDecodeLong)
	refused(t, filled(s, 1<<20), api.ErrDecodeLong)
	refused(t, s+strings.Repeat(sec(0, "\x00"), 30000), api.ErrDecodeLong)
	refused(t, strings.Repeat("\x00", 65536), api.ErrDecodeMagic)
	refused(t, strings.Repeat("\x00", 65537), api.ErrDecodeLong)
	refused(t, filled(begin, 65535)+"\x0c", api.ErrDecodeSection)
	refused(t, filled(begin, 65536)+"\x0c", api.ErrDecodeLong)
}

// bound is a list's: what stands ahead of it, an item, what stands behind, and how many items of the module it is to give.
type bound struct {
	what   string
	id     int
	front  string
	item   string
	behind string
	most   int
	many   func(m api.Module) int
}

func bounds() []bound {
	return []bound{
		{"types", 1, "", "\x60\x00\x00", "", 256, func(m api.Module) int { return len(m.Types) }},
		{"parameters", 1, "\x01\x60", "\x7f", "\x00", 1024, func(m api.Module) int { return len(m.Types[0].Params) }},
		{"results", 1, "\x01\x60\x00", "\x7c", "", 1024, func(m api.Module) int { return len(m.Types[0].Results) }},
		{"imports", 2, "", "\x01m\x00\x00\x00", "", 1024, func(m api.Module) int { return len(m.Imports) }},
		{"tables", 4, "", "\x70\x00\x00", "", 1024, func(m api.Module) int { return len(m.Tables) }},
		{"memories", 5, "", "\x00\x00", "", 1024, func(m api.Module) int { return len(m.Mems) }},
		{"globals", 6, "", "\x7f\x00\x0b", "", 1024, func(m api.Module) int { return len(m.Globals) }},
		{"exports", 7, "", "\x00\x00\x00", "", 1024, func(m api.Module) int { return len(m.Exports) }},
		{"elements", 9, "", "\x00\x0b\x00", "", 1024, func(m api.Module) int { return len(m.Elems) }},
		{"an element's functions", 9, "\x01\x00\x0b", "\x00", "", 1024, func(m api.Module) int { return len(m.Elems[0].Funcs) }},
		{"datas", 11, "", "\x00\x0b\x00", "", 1024, func(m api.Module) int { return len(m.Datas) }},
	}
}

// Each list as long as it may be, and one longer: with its items, without them, and with others.
func TestLists(t *testing.T) {
	for _, b := range bounds() {
		for _, n := range []int{1, 127, 128, 255, 256, 257, 1023, 1024, b.most - 1, b.most} {
			if n > b.most {
				continue
			}
			m, e := Module(begin + sec(b.id, b.front+items(n, b.item)+b.behind))
			if e != api.OK || b.many(m) != n {
				t.Errorf("P15.1: %d %s: %d", n, b.what, e)
			}
		}
		for _, n := range []int{b.most + 1, b.most + 2, 2000, 1 << 16, 1<<31 - 1, 1 << 31, 1<<32 - 1} {
			refusedSec(t, b.id, b.front+number(n), api.ErrDecodeLong)
			refusedSec(t, b.id, b.front+longer(n, 5)+"\xff", api.ErrDecodeLong)
			refusedSec(t, b.id, b.front+items(min(n, 3000), b.item)+b.behind, api.ErrDecodeLong)
		}
		refusedSec(t, b.id, b.front+number(b.most), api.ErrDecodeForm)
		refusedSec(t, b.id, b.front+number(b.most)+strings.Repeat(b.item, b.most-1), api.ErrDecodeForm)
	}
}

// Functions and codes, which go together.
func TestFunctions(t *testing.T) {
	for _, n := range []int{0, 1, 2, 127, 128, 255, 256} {
		want := api.Module{Start: -1, Funcs: slices.Repeat([]int{3}, n), Codes: make([]api.Code, n)}
		check(t, begin+sec(3, items(n, "\x03"))+sec(10, items(n, "\x02\x00\x0b")), want)
	}
	for _, n := range []int{257, 258, 1024, 1025, 1<<32 - 1} {
		refusedSec(t, 3, number(n), api.ErrDecodeLong)
		refusedSec(t, 10, number(n), api.ErrDecodeLong)
		refusedSec(t, 3, items(min(n, 3000), "\x03"), api.ErrDecodeLong)
		refusedSec(t, 10, items(min(n, 3000), "\x02\x00\x0b"), api.ErrDecodeLong)
		refused(t, begin+sec(3, items(256, "\x03"))+sec(10, items(min(n, 3000), "\x02\x00\x0b")), api.ErrDecodeLong)
	}
}

// bodyOf gives a module of one function, of its code's locals and instructions.
func bodyOf(s string) string { return begin + sec(3, "\x01\x00") + sec(10, "\x01"+code(s)) }

// checkLocals asks for so many locals.
func checkLocals(t *testing.T, runs string, want []int) {
	t.Helper()
	check(t, bodyOf(runs+"\x0b"), api.Module{Start: -1, Funcs: []int{0}, Codes: []api.Code{{Locals: want}}})
}

func TestLocals(t *testing.T) {
	full := slices.Repeat([]int{126}, 256)
	// In one run.
	checkLocals(t, "\x01\xff\x01\x7e", full[:255])
	checkLocals(t, "\x01\x80\x02\x7e", full)
	for _, n := range []int{257, 258, 1024, 1 << 16, 1<<31 - 1, 1 << 31, 1<<32 - 1} {
		refused(t, bodyOf("\x01"+number(n)+"\x7e\x0b"), api.ErrDecodeLong)
	}
	// In several.
	checkLocals(t, "\x02\xff\x01\x7e\x01\x7e", full)
	checkLocals(t, "\x02\x01\x7e\xff\x01\x7e", full)
	checkLocals(t, "\x02\x80\x02\x7e\x00\x7f", full)
	checkLocals(t, items(256, "\x01\x7e"), full)
	checkLocals(t, items(1024, "\x00\x7e"), nil)
	checkLocals(t, number(1024)+strings.Repeat("\x00\x7f", 768)+strings.Repeat("\x01\x7e", 256), full)
	refused(t, bodyOf("\x02\xff\x01\x7e\x02\x7e\x0b"), api.ErrDecodeLong)
	refused(t, bodyOf("\x02\x80\x02\x7e\x01\x7f\x0b"), api.ErrDecodeLong)
	refused(t, bodyOf("\x02\x01\x7e\x80\x02\x7f\x0b"), api.ErrDecodeLong)
	refused(t, bodyOf("\x02\x01\x7e\xff\xff\xff\xff\x0f\x7f\x0b"), api.ErrDecodeLong)
	refused(t, bodyOf(items(257, "\x01\x7e")+"\x0b"), api.ErrDecodeLong)
	// Runs are a list too, of whatever length they are.
	refused(t, bodyOf(items(1025, "\x00\x7e")+"\x0b"), api.ErrDecodeLong)
	refused(t, bodyOf("\x81\x08"), api.ErrDecodeLong)
	refused(t, bodyOf("\xff\xff\xff\xff\x0f"), api.ErrDecodeLong)
	// A code's locals are counted anew.
	n := "\x05" + "\x01\x80\x02\x7e\x0b"
	m, e := Module(begin + sec(3, items(256, "\x00")) + sec(10, items(256, n)))
	if e != api.OK || len(m.Codes) != 256 || !slices.Equal(m.Codes[0].Locals, full) || !slices.Equal(m.Codes[255].Locals, full) {
		t.Errorf("P15.1: 256 codes of 256 locals: %d", e)
	}
}

// nameFrame is a place where a name stands, and what a module with it there is.
type nameFrame struct {
	id     int
	front  string
	behind string
	want   func(s string) api.Module
}

func nameFrames() []nameFrame {
	return []nameFrame{
		{0, "", "", func(string) api.Module { return api.Module{Start: -1} }},
		{0, "", "\xff", func(string) api.Module { return api.Module{Start: -1} }},
		{2, "\x01", "\x01f\x00\x00", func(s string) api.Module {
			return api.Module{Start: -1, Imports: []api.Import{{Module: s, Name: "f"}}}
		}},
		{2, "\x01\x01m", "\x03\x7f\x01", func(s string) api.Module {
			return api.Module{Start: -1, Imports: []api.Import{{Module: "m", Name: s, Kind: 3, Type: 127, Mut: true}}}
		}},
		{7, "\x01", "\x02\x05", func(s string) api.Module {
			return api.Module{Start: -1, Exports: []api.Export{{Name: s, Kind: 2, Index: 5}}}
		}},
	}
}

func TestNames(t *testing.T) {
	for _, f := range nameFrames() {
		for _, s := range []string{"", "a", strings.Repeat("n", 63), strings.Repeat("n", 64), strings.Repeat("\u00e9", 32), "\U0010ffff"} {
			checkSec(t, f.id, f.front+number(len(s))+s+f.behind, f.want(s))
			checkSec(t, f.id, f.front+longer(len(s), 5)+s+f.behind, f.want(s))
		}
		for _, s := range []string{strings.Repeat("n", 65), strings.Repeat("n", 66), strings.Repeat("\xff", 65), strings.Repeat("n", 1000), strings.Repeat("\u00e9", 33)} {
			refusedSec(t, f.id, f.front+number(len(s))+s+f.behind, api.ErrDecodeLong)
			refusedSec(t, f.id, f.front+number(len(s))+s, api.ErrDecodeLong)
			// Beyond the section's end it is none at all.
			refusedSec(t, f.id, f.front+number(len(s))+s[:len(s)-1], api.ErrDecodeForm)
		}
		for _, s := range []string{"\xff", "a\x80", "\xc0\x80", "\xed\xa0\x80", "\xf4\x90\x80\x80", "\xc3", strings.Repeat("n", 63) + "\xc3"} {
			refusedSec(t, f.id, f.front+number(len(s))+s+f.behind, api.ErrDecodeForm)
		}
		for _, length := range []string{"\x80", "\x80\x80\x80\x80\x10", "\x80\x80\x80\x80\x80\x00", "\xff\xff\xff\xff\x0f", "\x7f"} {
			refusedSec(t, f.id, f.front+length+f.behind, api.ErrDecodeForm)
		}
	}
}

// instrFrame is a place where a list of instructions stands.
type instrFrame struct {
	what  string
	put   func(is string) string
	taken func(m api.Module) []api.Instr
}

func instrFrames() []instrFrame {
	return []instrFrame{
		{"a global", func(is string) string { return begin + sec(6, "\x01\x7f\x00"+is) }, func(m api.Module) []api.Instr { return m.Globals[0].Init }},
		{"an element", func(is string) string { return begin + sec(9, "\x01\x00"+is+"\x01\x05") }, func(m api.Module) []api.Instr { return m.Elems[0].Offset }},
		{"a code", func(is string) string { return bodyOf("\x00" + is) }, func(m api.Module) []api.Instr { return m.Codes[0].Body }},
		{"a data", func(is string) string { return begin + sec(11, "\x01\x00"+is+"\x02xy") }, func(m api.Module) []api.Instr { return m.Datas[0].Offset }},
	}
}

// Blocks as deep as they may be and one deeper; as many instructions as there may be and one more; as many labels.
func TestInstructions(t *testing.T) {
	deep := func(n int, inner string) string {
		return strings.Repeat("\x02\x40", n) + inner + strings.Repeat("\x0b", n+1)
	}
	for _, f := range instrFrames() {
		for what, s := range map[string]string{
			"none":                "\x0b",
			"one":                 "\x01\x0b",
			"MaxNest deep":        deep(32, "\x01"),
			"MaxBody":             strings.Repeat("\x01", 8192) + "\x0b",
			"MaxItems labels":     "\x0e\xff\x07" + strings.Repeat("\x00", 1024) + "\x0b",
			"numbers longer":      "\x20\x85\x80\x80\x80\x00\x0b",
			"an else of nothing":  "\x04\x40\x05\x0b\x0b",
			"MaxNest deep, twice": strings.Repeat("\x03\x7f", 32) + strings.Repeat("\x0b", 32) + deep(32, ""),
		} {
			if m, e := Module(f.put(s)); e != api.OK {
				t.Errorf("P15.1: %s in %s: %d", what, f.what, e)
			} else if got := f.taken(m); (len(got) == 0) != (what == "none") {
				t.Errorf("P15.1: %s in %s: %d instructions", what, f.what, len(got))
			}
		}
		for _, s := range []string{deep(33, "\x01"), deep(33, ""), deep(100, ""), strings.Repeat("\x04\x40\x05", 33), strings.Repeat("\x02\x40", 33), strings.Repeat("\x03\x40", 32) + "\x02"} {
			refused(t, f.put(s), api.ErrDecodeNest)
		}
		for _, s := range []string{
			"\x05\x0b", "\x06\x0b", "\xff", "\xc0\x0b", "\x02\x41\x0b\x0b", "\x3f\x01\x0b", "\x11\x00\x01\x0b",
			strings.Repeat("\x01", 8193) + "\x0b", "\x0e\x80\x08" + strings.Repeat("\x00", 1025) + "\x0b", "\x20\x80\x80\x80\x80\x10\x0b",
		} {
			refused(t, f.put(s), api.ErrDecodeForm)
		}
	}
}

// Numbers at their ends and beyond, wherever a number stands.
func TestNumbers(t *testing.T) {
	frames := []struct {
		id     int
		front  string
		behind string
		taken  func(m api.Module) int
	}{
		{2, "\x01\x01m\x01f\x00", "", func(m api.Module) int { return m.Imports[0].Type }},
		{2, "\x01\x01m\x01t\x01\x70\x00", "", func(m api.Module) int { return m.Imports[0].Limits.Least }},
		{2, "\x01\x01m\x01t\x01\x70\x01\x05", "", func(m api.Module) int { return m.Imports[0].Limits.Most }},
		{2, "\x01\x01m\x01y\x02\x01", "\x05", func(m api.Module) int { return m.Imports[0].Limits.Least }},
		{2, "\x01\x01m\x01y\x02\x01\x05", "", func(m api.Module) int { return m.Imports[0].Limits.Most }},
		{4, "\x01\x70\x00", "", func(m api.Module) int { return m.Tables[0].Least }},
		{4, "\x01\x70\x01", "\x05", func(m api.Module) int { return m.Tables[0].Least }},
		{4, "\x01\x70\x01\x05", "", func(m api.Module) int { return m.Tables[0].Most }},
		{5, "\x01\x00", "", func(m api.Module) int { return m.Mems[0].Least }},
		{5, "\x01\x01", "\x05", func(m api.Module) int { return m.Mems[0].Least }},
		{5, "\x01\x01\x05", "", func(m api.Module) int { return m.Mems[0].Most }},
		{7, "\x01\x01a\x00", "", func(m api.Module) int { return m.Exports[0].Index }},
		{8, "", "", func(m api.Module) int { return m.Start }},
		{9, "\x01\x00\x0b\x01", "", func(m api.Module) int { return m.Elems[0].Funcs[0] }},
		{9, "\x01\x00\x0b\x03\x05", "\x06", func(m api.Module) int { return m.Elems[0].Funcs[1] }},
	}
	for _, f := range frames {
		for _, x := range []int{0, 1, 127, 128, 1<<14 - 1, 1 << 14, 65535, 65536, 65537, 1<<31 - 1, 1 << 31, 1<<32 - 1} {
			for parts := 1; parts <= 5; parts++ {
				m, e := Module(begin + sec(f.id, f.front+longer(x, parts)+f.behind))
				if e != api.OK || f.taken(m) != x {
					t.Errorf("P15.1: %d in section %d behind %q: %d", x, f.id, f.front, e)
				}
			}
			refusedSec(t, f.id, f.front+longer(x, 6)+f.behind, api.ErrDecodeForm)
		}
		for _, s := range []string{"\x80\x80\x80\x80\x10", "\xff\xff\xff\xff\x1f", "\xff\xff\xff\xff\x7f", "\xff\xff\xff\xff\xff\x00", "\x80\x80\x80\x80\x80\x80"} {
			refusedSec(t, f.id, f.front+s+f.behind, api.ErrDecodeForm)
		}
		for _, s := range []string{"", "\x80", "\xff\xff", "\x80\x80\x80\x80"} {
			refusedSec(t, f.id, f.front+s, api.ErrDecodeForm)
		}
	}
	// A function's type.
	for _, x := range []int{0, 128, 65536, 1<<32 - 1} {
		check(t, begin+sec(3, "\x01"+number(x))+sec(10, "\x01\x02\x00\x0b"), api.Module{Start: -1, Funcs: []int{x}, Codes: make([]api.Code, 1)})
	}
	refusedSec(t, 3, "\x01\x80\x80\x80\x80\x10", api.ErrDecodeForm)
}

// A section that goes to the text's end, and one byte beyond it, of whatever kind it is and however its size is written.
func TestSizes(t *testing.T) {
	for _, p := range append(parts(), part{0, "\x01n\xff\xff", func(*api.Module) {}}) {
		want := api.Module{Start: -1}
		p.fill(&want)
		for parts := 1; parts <= 5; parts++ {
			fits := begin + one(p.id) + longer(len(p.content), parts) + p.content
			if len(want.Funcs) != len(want.Codes) {
				refused(t, fits, api.ErrDecodeCounts)
			} else {
				check(t, fits, want)
			}
			for _, beyond := range []int{1, 2, 70000, 1<<31 - 1, 1<<32 - 1 - len(p.content)} {
				refused(t, begin+one(p.id)+longer(len(p.content)+beyond, parts)+p.content, api.ErrDecodeCut)
			}
		}
	}
	// Data to a module's last byte.
	rest := 65536 - len(begin) - 4 - 6
	d := strings.Repeat("d", rest)
	s := begin + "\x0b" + longer(rest+6, 3) + "\x01\x00\x0b" + longer(rest, 3) + d
	if len(s) != 65536 {
		t.Fatal(len(s))
	}
	check(t, s, api.Module{Start: -1, Datas: []api.Data{{Bytes: d}}})
}

// The greatest of what may be asked ends soon.
func TestGreatest(t *testing.T) {
	nops := 65536 - 8 - 8 - 7 - 200
	per := 255
	many := nops / (per + 5)
	c := "\x00" + strings.Repeat("\x01", per) + "\x0b"
	for what, s := range map[string]string{
		"codes":   begin + sec(3, items(many, "\x00")) + sec(10, items(many, longer(len(c), 3)+c)),
		"customs": begin + strings.Repeat(sec(0, "\x00"), 21842),
		"types":   begin + sec(1, items(60, "\x60"+items(1024, "\x7f")+"\x00")),
		"runs":    begin + sec(3, items(30, "\x00")) + sec(10, items(30, code(items(1024, "\x00\x7f")+"\x0b"))),
		"elems":   begin + sec(9, items(63, "\x00\x0b"+items(1024, "\x00"))),
	} {
		if len(s) > 65536 || len(s) < 59000 {
			t.Errorf("%s: %d bytes", what, len(s))
		}
		checkGrammar(t, s)
		if _, e := Module(s); e != api.OK {
			t.Errorf("P15.1: %s: %d", what, e)
		}
	}
}
