package encode

import (
	"strconv"
	"strings"
	"testing"

	"pelorus/api"
)

// numberPlace is a place where a number stands: whether -1 says there that there is none, a module with a number there, and
// the text with its parts.
type numberPlace struct {
	what string
	none bool
	with func(x int) api.Module
	text func(s string) string
}

func numberPlaces() []numberPlace {
	imported := func(i api.Import) api.Module { return api.Module{Start: -1, Imports: []api.Import{{}, i}} }
	ahead := func(s string) string { return sec(2, "\x02\x00\x00\x00\x00\x01m\x01n"+s) }
	return []numberPlace{
		{"an imported function's type", false, func(x int) api.Module { return imported(api.Import{Module: "m", Name: "n", Type: x}) }, func(s string) string { return ahead("\x00" + s) }},
		{"an imported table's Least", false, func(x int) api.Module {
			return imported(api.Import{Module: "m", Name: "n", Kind: 1, Limits: api.Limits{Least: x, Most: -1}})
		}, func(s string) string { return ahead("\x01\x70\x00" + s) }},
		{"an imported table's Most", true, func(x int) api.Module {
			return imported(api.Import{Module: "m", Name: "n", Kind: 1, Limits: api.Limits{Least: 5, Most: x}})
		}, func(s string) string { return ahead("\x01\x70\x01\x05" + s) }},
		{"an imported memory's Least", false, func(x int) api.Module {
			return imported(api.Import{Module: "m", Name: "n", Kind: 2, Limits: api.Limits{Least: x, Most: 5}})
		}, func(s string) string { return ahead("\x02\x01" + s + "\x05") }},
		{"an imported memory's Most", true, func(x int) api.Module {
			return imported(api.Import{Module: "m", Name: "n", Kind: 2, Limits: api.Limits{Most: x}})
		}, func(s string) string { return ahead("\x02\x01\x00" + s) }},
		{"a function's type", false, func(x int) api.Module {
			return api.Module{Start: -1, Funcs: []int{7, x}, Codes: make([]api.Code, 2)}
		}, func(s string) string { return sec(3, "\x02\x07"+s) + sec(10, "\x02\x02\x00\x0b\x02\x00\x0b") }},
		{"a table's Least", false, func(x int) api.Module { return api.Module{Start: -1, Tables: []api.Limits{{Least: x, Most: 5}}} }, func(s string) string { return sec(4, "\x01\x70\x01"+s+"\x05") }},
		{"a table's Most", true, func(x int) api.Module {
			return api.Module{Start: -1, Tables: []api.Limits{{Most: -1}, {Least: 5, Most: x}}}
		}, func(s string) string { return sec(4, "\x02\x70\x00\x00\x70\x01\x05"+s) }},
		{"a memory's Least", false, func(x int) api.Module { return api.Module{Start: -1, Mems: []api.Limits{{Least: x, Most: -1}}} }, func(s string) string { return sec(5, "\x01\x00"+s) }},
		{"a memory's Most", true, func(x int) api.Module { return api.Module{Start: -1, Mems: []api.Limits{{Least: 1, Most: x}}} }, func(s string) string { return sec(5, "\x01\x01\x01"+s) }},
		{"an export's number", false, func(x int) api.Module {
			return api.Module{Start: -1, Exports: []api.Export{{Name: "a"}, {Name: "b", Kind: 3, Index: x}}}
		}, func(s string) string { return sec(7, "\x02\x01a\x00\x00\x01b\x03"+s) }},
		{"the start", true, func(x int) api.Module { return api.Module{Start: x} }, func(s string) string { return sec(8, s) }},
		{"an element's function", false, func(x int) api.Module { return api.Module{Start: -1, Elems: []api.Elem{{Funcs: []int{x}}}} }, func(s string) string { return sec(9, "\x01\x00\x0b\x01"+s) }},
		{"an element's second function", false, func(x int) api.Module {
			return api.Module{Start: -1, Elems: []api.Elem{{}, {Funcs: []int{3, x, 4}}}}
		}, func(s string) string { return sec(9, "\x02\x00\x0b\x00\x00\x0b\x03\x03"+s+"\x04") }},
		{"a label", false, func(x int) api.Module { return bodyOf(api.Code{Body: []api.Instr{{Op: 12, A: x}}}) }, func(s string) string { return sec(3, "\x01\x00") + sec(10, "\x01"+sized("\x00\x0c"+s+"\x0b")) }},
		{"a global's constant", false, func(x int) api.Module {
			return api.Module{Start: -1, Globals: []api.Global{{Type: 127, Init: []api.Instr{{Op: 35, A: x}}}}}
		}, func(s string) string { return sec(6, "\x01\x7f\x00\x23"+s+"\x0b") }},
	}
}

// Numbers at their ends and beyond, wherever a number stands: in as few parts as hold them.
func TestNumbers(t *testing.T) {
	for _, p := range numberPlaces() {
		for x, s := range map[int]string{
			0: "\x00", 1: "\x01", 63: "\x3f", 64: "\x40", 127: "\x7f", 128: "\x80\x01", 1<<14 - 1: "\xff\x7f", 1 << 14: "\x80\x80\x01",
			1<<21 - 1: "\xff\xff\x7f", 1 << 21: "\x80\x80\x80\x01", 1<<28 - 1: "\xff\xff\xff\x7f", 1 << 28: "\x80\x80\x80\x80\x01",
			1<<31 - 1: "\xff\xff\xff\xff\x07", 1 << 31: "\x80\x80\x80\x80\x08", 1<<32 - 1: "\xff\xff\xff\xff\x0f",
		} {
			check(t, p.with(x), begin+p.text(s))
		}
		for _, x := range []int{-1, -2, -3, -128, -1 << 31, -1<<31 - 1, -1 << 32, -1 << 63, 1 << 32, 1<<32 + 1, 1<<33 - 1, 1 << 35, 1<<63 - 1} {
			if x == -1 && p.none {
				taken(t, p.what, p.with(x))
			} else {
				refused(t, p.what+" "+strconv.Itoa(x), p.with(x))
			}
		}
	}
}

// Where -1 says that there is none, it is not written.
func TestNone(t *testing.T) {
	check(t, api.Module{Start: -1, Tables: []api.Limits{{Least: 5, Most: -1}}}, begin+sec(4, "\x01\x70\x00\x05"))
	check(t, api.Module{Start: -1, Mems: []api.Limits{{Least: 5, Most: -1}}}, begin+sec(5, "\x01\x00\x05"))
	check(t, api.Module{Start: -1}, begin)
}

// bytePlace is a place where one of some bytes stands.
type bytePlace struct {
	what string
	may  []int
	with func(x int) api.Module
	text func(s string) string
}

func bytePlaces() []bytePlace {
	types, kinds := []int{124, 125, 126, 127}, []int{0, 1, 2, 3}
	return []bytePlace{
		{"a parameter", types, func(x int) api.Module { return api.Module{Start: -1, Types: []api.FuncType{{Params: []int{x}}}} }, func(s string) string { return sec(1, "\x01\x60\x01"+s+"\x00") }},
		{"a second parameter", types, func(x int) api.Module {
			return api.Module{Start: -1, Types: []api.FuncType{{}, {Params: []int{127, x}, Results: []int{126}}}}
		}, func(s string) string { return sec(1, "\x02\x60\x00\x00\x60\x02\x7f"+s+"\x01\x7e") }},
		{"a result", types, func(x int) api.Module { return api.Module{Start: -1, Types: []api.FuncType{{Results: []int{x}}}} }, func(s string) string { return sec(1, "\x01\x60\x00\x01"+s) }},
		{"a second result", types, func(x int) api.Module {
			return api.Module{Start: -1, Types: []api.FuncType{{Params: []int{125}, Results: []int{124, x}}}}
		}, func(s string) string { return sec(1, "\x01\x60\x01\x7d\x02\x7c"+s) }},
		{"an imported global's type", types, func(x int) api.Module {
			return api.Module{Start: -1, Imports: []api.Import{{Kind: 3, Type: x, Mut: true}}}
		}, func(s string) string { return sec(2, "\x01\x00\x00\x03"+s+"\x01") }},
		{"a global's type", types, func(x int) api.Module { return api.Module{Start: -1, Globals: []api.Global{{Type: x}}} }, func(s string) string { return sec(6, "\x01"+s+"\x00\x0b") }},
		{"a local", types, func(x int) api.Module { return bodyOf(api.Code{Locals: []int{x}}) }, func(s string) string { return sec(3, "\x01\x00") + sec(10, "\x01\x04\x01\x01"+s+"\x0b") }},
		{"locals of one type", types, func(x int) api.Module { return bodyOf(api.Code{Locals: []int{x, x, x}}) }, func(s string) string { return sec(3, "\x01\x00") + sec(10, "\x01\x04\x01\x03"+s+"\x0b") }},
		{"an export's kind", kinds, func(x int) api.Module {
			return api.Module{Start: -1, Exports: []api.Export{{Name: "a", Kind: x, Index: 5}}}
		}, func(s string) string { return sec(7, "\x01\x01a"+s+"\x05") }},
		{"a second export's kind", kinds, func(x int) api.Module {
			return api.Module{Start: -1, Exports: []api.Export{{Name: "a"}, {Name: "b", Kind: x}}}
		}, func(s string) string { return sec(7, "\x02\x01a\x00\x00\x01b"+s+"\x00") }},
	}
}

// Each type and each kind that is none; those whose lowest byte is one are none too.
func TestTypesAndKinds(t *testing.T) {
	for _, p := range bytePlaces() {
		for x := -300; x <= 600; x++ {
			may := false
			for _, y := range p.may {
				may = may || x == y
			}
			if may {
				check(t, p.with(x), begin+p.text(one(x)))
			} else {
				refused(t, p.what+" "+strconv.Itoa(x), p.with(x))
			}
		}
		for _, y := range p.may {
			for _, x := range []int{y + 1<<8, y + 1<<16, y + 1<<32, y - 1<<8, y - 1<<32, y + -1<<63, 1<<63 - 1} {
				refused(t, p.what+" "+strconv.Itoa(x), p.with(x))
			}
		}
	}
	// A wrong type among locals, at whatever place.
	for k := range 5 {
		locals := []int{127, 127, 126, 126, 124}
		locals[k] = 64
		refused(t, "a local of no type", bodyOf(api.Code{Locals: locals}))
	}
}

// Each kind of an import that is none, whatever its other fields are.
func TestImportKinds(t *testing.T) {
	limits := api.Limits{Least: 1, Most: 2}
	for _, kind := range []int{-1 << 63, -256, -2, -1, 4, 5, 63, 64, 127, 255, 256, 257, 258, 259, 1 << 32, 1<<32 + 3, 1<<63 - 1} {
		for _, i := range []api.Import{{}, {Type: 127}, {Type: 127, Mut: true}, {Limits: limits}, {Limits: api.Limits{Most: -1}}} {
			i.Kind = kind
			refused(t, "an import of kind "+strconv.Itoa(kind), api.Module{Start: -1, Imports: []api.Import{i}})
		}
	}
}

// Each field of an import that its kind does not use and that is not zero; those that it uses may be.
func TestUnused(t *testing.T) {
	good := []api.Import{
		{Kind: 0, Type: 5},
		{Kind: 1, Limits: api.Limits{Least: 1, Most: 2}},
		{Kind: 2, Limits: api.Limits{Least: 1, Most: 2}},
		{Kind: 3, Type: 126, Mut: true},
	}
	asked := func(i api.Import) api.Module {
		i.Module, i.Name = "m", "n"
		return api.Module{Start: -1, Imports: []api.Import{{Module: "m", Name: "f"}, i, {Module: "m", Name: "t", Kind: 1}}}
	}
	for kind, i := range good {
		taken(t, "an import", asked(i))
		what := "an import of kind " + strconv.Itoa(kind) + " with "
		for _, x := range []int{-1 << 63, -2, -1, 1, 2, 64, 124, 127, 1<<32 - 1, 1 << 32, 1<<63 - 1} {
			if kind == 1 || kind == 2 {
				bad := i
				bad.Type = x
				refused(t, what+"a type", asked(bad))
				continue
			}
			bad := i
			bad.Limits.Least = x
			refused(t, what+"a Least", asked(bad))
			bad = i
			bad.Limits.Most = x
			refused(t, what+"a Most", asked(bad))
			bad.Limits.Least = x
			refused(t, what+"limits", asked(bad))
		}
		if kind != 3 {
			bad := i
			bad.Mut = true
			refused(t, what+"Mut", asked(bad))
		}
	}
	// Zero is no type of a global, and is a function's, a limit.
	refused(t, "an imported global of type 0", asked(api.Import{Kind: 3}))
	taken(t, "an imported function of type 0", asked(api.Import{}))
	taken(t, "imported limits of 0", asked(api.Import{Kind: 2}))
	taken(t, "an imported global that is not mut", asked(api.Import{Kind: 3, Type: 124}))
}

// Instructions that layer 14 refuses, in each place where instructions stand: first, behind others, and in blocks.
func TestWrongInstructions(t *testing.T) {
	wrong := []api.Instr{
		{Op: -1}, {Op: 5}, {Op: 6}, {Op: 11}, {Op: 18}, {Op: 28}, {Op: 37}, {Op: 192}, {Op: 255}, {Op: 256}, {Op: 257}, {Op: 1<<32 + 1},
		{Op: 1, A: 1}, {Op: 1, B: 1}, {Op: 1, Bits: 1}, {Op: 1, Type: 64}, {Op: 1, Labels: []int{0}}, {Op: 1, Body: []api.Instr{{Op: 1}}}, {Op: 1, Else: []api.Instr{{Op: 1}}},
		{Op: 2}, {Op: 2, Type: 123}, {Op: 2, Type: 128}, {Op: 3, Type: -1}, {Op: 4, Type: 64 + 256}, {Op: 2, Type: 64, Else: []api.Instr{{Op: 1}}},
		{Op: 12, A: -1}, {Op: 12, A: 1 << 32}, {Op: 12, A: 1, B: 1}, {Op: 14}, {Op: 14, Labels: []int{0, -1}}, {Op: 14, Labels: []int{1 << 32}}, {Op: 14, A: 1, Labels: []int{0}},
		{Op: 17, A: -1}, {Op: 17, A: 0, B: 1}, {Op: 40, A: -1}, {Op: 40, B: -1}, {Op: 40, B: 1 << 32}, {Op: 63, A: 1},
		{Op: 65, Bits: -1}, {Op: 65, Bits: 1 << 32}, {Op: 65, A: 1}, {Op: 67, Bits: -1}, {Op: 67, Bits: 1 << 32}, {Op: 68, B: 1},
	}
	nop := api.Instr{Op: 1}
	for _, p := range instrPlaces() {
		for _, i := range wrong {
			what := "wrong Op " + strconv.Itoa(i.Op) + " in " + p.what
			refused(t, what, p.with([]api.Instr{i}))
			refused(t, what, p.with([]api.Instr{nop, i, nop}))
			refused(t, what, p.with([]api.Instr{nop, {Op: 2, Type: 64, Body: []api.Instr{nop, i}}}))
			refused(t, what, p.with([]api.Instr{{Op: 4, Type: 64, Body: []api.Instr{nop}, Else: []api.Instr{i}}}))
		}
		check(t, p.with([]api.Instr{nop, {Op: 68, Bits: -2}}), begin+p.text("\x01\x44\xfe"+strings.Repeat("\xff", 7)+"\x0b"))
	}
}

// One wrong thing among all that is right, in the last item of each section as in the first.
func TestOneWrong(t *testing.T) {
	m, s := full()
	check(t, m, s)
	for what, change := range map[string]func(m *api.Module, k int){
		"types":     func(m *api.Module, k int) { m.Types[k*(len(m.Types)-1)].Params = []int{64} },
		"imports":   func(m *api.Module, k int) { m.Imports[k*(len(m.Imports)-1)].Kind = 4 },
		"functions": func(m *api.Module, k int) { m.Funcs[k*(len(m.Funcs)-1)] = -1 },
		"tables":    func(m *api.Module, k int) { m.Tables[k*(len(m.Tables)-1)].Least = -1 },
		"memories":  func(m *api.Module, k int) { m.Mems[k*(len(m.Mems)-1)].Most = -2 },
		"globals":   func(m *api.Module, k int) { m.Globals[k*(len(m.Globals)-1)].Type = 64 },
		"exports":   func(m *api.Module, k int) { m.Exports[k*(len(m.Exports)-1)].Name = "\xff" },
		"start":     func(m *api.Module, k int) { m.Start = -2 - k },
		"elements":  func(m *api.Module, k int) { m.Elems[k*(len(m.Elems)-1)].Funcs = []int{1 << 32} },
		"codes":     func(m *api.Module, k int) { m.Codes[k*(len(m.Codes)-1)].Locals = []int{0} },
		"datas":     func(m *api.Module, k int) { m.Datas[k*(len(m.Datas)-1)].Offset = []api.Instr{{Op: 5}} },
		"counts":    func(m *api.Module, k int) { m.Codes = m.Codes[1:] },
	} {
		for k := range 2 {
			bad := copied(m)
			change(&bad, k)
			refused(t, "wrong "+what, bad)
		}
	}
	// Several wrong things are one error.
	refused(t, "all wrong", api.Module{Start: -2, Funcs: []int{-1}, Mems: make([]api.Limits, 1025), Exports: []api.Export{{Name: "\xff", Kind: 4, Index: -1}}})
}
