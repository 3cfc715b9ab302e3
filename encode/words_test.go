package encode

import (
	"encoding/binary"
	"fmt"
	"reflect"
	"slices"
	"strings"
	"testing"

	"pelorus/api"
	"pelorus/decode"
)

// What the tests share: items with their bytes, how these come to a text, a row of numbers, and the questions that are
// asked.

// begin is what each module begins with.
const begin = "\x00asm\x01\x00\x00\x00"

// one gives a byte.
func one(b int) string { return string([]byte{byte(b)}) }

// number gives a number in as few parts as hold it.
func number(x int) string { return string(binary.AppendUvarint(nil, uint64(x))) }

// sized gives bytes behind how many they are.
func sized(s string) string { return number(len(s)) + s }

// sec gives a section.
func sec(id int, content string) string { return one(id) + sized(content) }

// items gives a list of so many times the same.
func items(many int, item string) string { return number(many) + strings.Repeat(item, many) }

// piece is an item of a section: its bytes, and what it is in a module.
type piece struct {
	id    int
	bytes string
	add   func(m *api.Module)
}

func typePiece(bytes string, params, results []int) piece {
	return piece{1, bytes, func(m *api.Module) { m.Types = append(m.Types, api.FuncType{Params: params, Results: results}) }}
}

func importPiece(bytes string, i api.Import) piece {
	return piece{2, bytes, func(m *api.Module) { m.Imports = append(m.Imports, i) }}
}

func funcPiece(bytes string, f int) piece {
	return piece{3, bytes, func(m *api.Module) { m.Funcs = append(m.Funcs, f) }}
}

func tablePiece(bytes string, least, most int) piece {
	return piece{4, bytes, func(m *api.Module) { m.Tables = append(m.Tables, api.Limits{Least: least, Most: most}) }}
}

func memPiece(bytes string, least, most int) piece {
	return piece{5, bytes, func(m *api.Module) { m.Mems = append(m.Mems, api.Limits{Least: least, Most: most}) }}
}

func globalPiece(bytes string, t int, mut bool, is ...api.Instr) piece {
	return piece{6, bytes, func(m *api.Module) { m.Globals = append(m.Globals, api.Global{Type: t, Mut: mut, Init: is}) }}
}

func exportPiece(bytes, name string, kind, index int) piece {
	return piece{7, bytes, func(m *api.Module) {
		m.Exports = append(m.Exports, api.Export{Name: name, Kind: kind, Index: index})
	}}
}

func elemPiece(bytes string, fs []int, is ...api.Instr) piece {
	return piece{9, bytes, func(m *api.Module) { m.Elems = append(m.Elems, api.Elem{Offset: is, Funcs: fs}) }}
}

func codePiece(bytes string, locals []int, is ...api.Instr) piece {
	return piece{10, bytes, func(m *api.Module) { m.Codes = append(m.Codes, api.Code{Locals: locals, Body: is}) }}
}

func dataPiece(bytes, data string, is ...api.Instr) piece {
	return piece{11, bytes, func(m *api.Module) { m.Datas = append(m.Datas, api.Data{Offset: is, Bytes: data}) }}
}

// pieces gives items of each section that is a list, of all their kinds.
func pieces() []piece {
	full := strings.Repeat("n", 64)
	return []piece{
		typePiece("\x60\x00\x00", nil, nil),
		typePiece("\x60\x02\x7f\x7e\x01\x7d", []int{127, 126}, []int{125}),
		typePiece("\x60\x01\x7c\x02\x7f\x7f", []int{124}, []int{127, 127}),
		typePiece("\x60\x00\x04\x7c\x7d\x7e\x7f", []int{}, []int{124, 125, 126, 127}),
		typePiece("\x60\x80\x01"+strings.Repeat("\x7e", 128)+"\x00", slices.Repeat([]int{126}, 128), nil),

		importPiece("\x03env\x01f\x00\x05", api.Import{Module: "env", Name: "f", Type: 5}),
		importPiece("\x00\x00\x00\x00", api.Import{}),
		importPiece("\x01m\x01n\x00\xff\xff\xff\xff\x0f", api.Import{Module: "m", Name: "n", Type: 1<<32 - 1}),
		importPiece("\x01m\x01t\x01\x70\x00\x07", api.Import{Module: "m", Name: "t", Kind: 1, Limits: api.Limits{Least: 7, Most: -1}}),
		importPiece("\x01m\x01u\x01\x70\x01\x80\x01\x03", api.Import{Module: "m", Name: "u", Kind: 1, Limits: api.Limits{Least: 128, Most: 3}}),
		importPiece("\x01m\x01v\x01\x70\x01\x00\x00", api.Import{Module: "m", Name: "v", Kind: 1}),
		importPiece("\x01m\x01w\x02\x00\x80\x80\x04", api.Import{Module: "m", Name: "w", Kind: 2, Limits: api.Limits{Least: 65536, Most: -1}}),
		importPiece("\x01m\x01x\x02\x01\x09\xff\xff\xff\xff\x0f", api.Import{Module: "m", Name: "x", Kind: 2, Limits: api.Limits{Least: 9, Most: 1<<32 - 1}}),
		importPiece("\x01m\x01y\x03\x7c\x01", api.Import{Module: "m", Name: "y", Kind: 3, Type: 124, Mut: true}),
		importPiece("\x02\xc3\xa9\x40"+full+"\x03\x7f\x00", api.Import{Module: "\u00e9", Name: full, Kind: 3, Type: 127}),

		funcPiece("\x00", 0),
		funcPiece("\x7f", 127),
		funcPiece("\x80\x01", 128),
		funcPiece("\xff\xff\xff\xff\x0f", 1<<32-1),

		tablePiece("\x70\x00\x05", 5, -1),
		tablePiece("\x70\x00\x00", 0, -1),
		tablePiece("\x70\x01\x00\x00", 0, 0),
		tablePiece("\x70\x01\x80\x08\xff\xff\xff\xff\x0f", 1024, 1<<32-1),

		memPiece("\x00\x01", 1, -1),
		memPiece("\x00\xff\xff\xff\xff\x0f", 1<<32-1, -1),
		memPiece("\x01\x00\x00", 0, 0),
		memPiece("\x01\x02\x80\x80\x04", 2, 65536),

		globalPiece("\x7f\x01\x41\x7f\x0b", 127, true, api.Instr{Op: 65, Bits: 1<<32 - 1}),
		globalPiece("\x7e\x00\x42\xe4\x00\x01\x0b", 126, false, api.Instr{Op: 66, Bits: 100}, api.Instr{Op: 1}),
		globalPiece("\x7d\x01\x43\x00\x00\x80\x3f\x0b", 125, true, api.Instr{Op: 67, Bits: 0x3f800000}),
		globalPiece("\x7c\x00\x44\xff\xff\xff\xff\xff\xff\xff\xff\x0b", 124, false, api.Instr{Op: 68, Bits: -1}),
		globalPiece("\x7c\x01\x0b", 124, true),
		globalPiece("\x7f\x00\x23\x80\x01\x0b", 127, false, api.Instr{Op: 35, A: 128}),

		exportPiece("\x01a\x00\x01", "a", 0, 1),
		exportPiece("\x00\x01\x00", "", 1, 0),
		exportPiece("\x40"+full+"\x02\x80\x01", full, 2, 128),
		exportPiece("\x04\xf0\x9f\x98\x80\x03\xff\xff\xff\xff\x0f", "\U0001f600", 3, 1<<32-1),

		elemPiece("\x00\x41\x00\x0b\x02\x00\x81\x01", []int{0, 129}, api.Instr{Op: 65}),
		elemPiece("\x00\x23\x04\x0b\x00", nil, api.Instr{Op: 35, A: 4}),
		elemPiece("\x00\x0b\x01\xff\xff\xff\xff\x0f", []int{1<<32 - 1}),
		elemPiece("\x00\x41\x80\x7f\x01\x0b\x80\x01"+strings.Repeat("\x03", 128), slices.Repeat([]int{3}, 128), api.Instr{Op: 65, Bits: 1<<32 - 128}, api.Instr{Op: 1}),

		codePiece("\x02\x00\x0b", nil),
		codePiece("\x04\x01\x01\x7f\x0b", []int{127}),
		codePiece("\x0c\x04\x02\x7f\x01\x7e\x03\x7f\x01\x7c\x0f\x01\x0b", []int{127, 127, 126, 127, 127, 127, 124}, api.Instr{Op: 15}, api.Instr{Op: 1}),
		codePiece("\x0a\x00\x04\x40\x01\x05\x02\x7f\x0b\x0b\x0b", []int{}, api.Instr{Op: 4, Type: 64, Body: []api.Instr{{Op: 1}}, Else: []api.Instr{{Op: 2, Type: 127}}}),
		codePiece("\x0a\x00\x0e\x01\x00\xac\x02\x28\x02\x05\x0b", nil, api.Instr{Op: 14, Labels: []int{0, 300}}, api.Instr{Op: 40, A: 2, B: 5}),
		codePiece("\x83\x01\x01\x80\x01\x7d"+strings.Repeat("\x01", 126)+"\x0b", slices.Repeat([]int{125}, 128), slices.Repeat([]api.Instr{{Op: 1}}, 126)...),

		dataPiece("\x00\x41\x01\x0b\x03x\x00\xff", "x\x00\xff", api.Instr{Op: 65, Bits: 1}),
		dataPiece("\x00\x0b\x00", ""),
		dataPiece("\x00\x23\x00\x0b\xac\x02"+strings.Repeat("\x0b", 300), strings.Repeat("\x0b", 300), api.Instr{Op: 35}),
	}
}

// ofSection gives the pieces of a section.
func ofSection(id int) []piece {
	return slices.DeleteFunc(pieces(), func(p piece) bool { return p.id != id })
}

// whole gives a module of pieces, with its Start, and its text: the sections by rising number, those without pieces left
// out.
func whole(ps []piece, start int) (api.Module, string) {
	m := api.Module{Start: start}
	many, content := [12]int{}, [12]string{}
	for _, p := range ps {
		p.add(&m)
		many[p.id]++
		content[p.id] += p.bytes
	}
	s := begin
	for id := 1; id < 12; id++ {
		if id == 8 && start != -1 {
			s += sec(8, number(start))
		}
		if many[id] > 0 {
			s += sec(id, number(many[id])+content[id])
		}
	}
	return m, s
}

// paired gives pieces with as many functions as codes: those that lack are put behind.
func paired(ps []piece) []piece {
	more := 0
	for _, p := range ps {
		switch p.id {
		case 3:
			more++
		case 10:
			more--
		}
	}
	for ; more > 0; more-- {
		ps = append(ps, codePiece("\x02\x00\x0b", nil))
	}
	for ; more < 0; more++ {
		ps = append(ps, funcPiece("\x09", 9))
	}
	return ps
}

// numbers is a row of numbers.
type numbers uint64

func (r *numbers) below(n int) int {
	*r = *r*6364136223846793005 + 1442695040888963407
	return int(uint64(*r) >> 32 % uint64(n))
}

// some gives a module of pieces in any row, and its text.
func (r *numbers) some() (api.Module, string) {
	all := pieces()
	var ps []piece
	for range r.below(20) {
		ps = append(ps, all[r.below(len(all))])
	}
	start := -1
	if r.below(3) == 0 {
		start = []int{0, 127, 128, 1<<32 - 1}[r.below(4)]
	}
	return whole(paired(ps), start)
}

// full gives a module with all pieces, and its text.
func full() (api.Module, string) { return whole(paired(pieces()), 300) }

// same tells whether two modules are alike; an empty list is nil.
func same(a, b api.Module) bool { return reflect.DeepEqual(copied(a), copied(b)) }

// copied gives a module in new memory, with nil in place of each empty list.
func copied(m api.Module) api.Module {
	return copiedValue(reflect.ValueOf(m)).Interface().(api.Module)
}

func copiedValue(v reflect.Value) reflect.Value {
	out := reflect.New(v.Type()).Elem()
	switch v.Kind() {
	case reflect.Slice:
		for k := range v.Len() {
			out = reflect.Append(out, copiedValue(v.Index(k)))
		}
	case reflect.Struct:
		for k := range v.NumField() {
			out.Field(k).Set(copiedValue(v.Field(k)))
		}
	case reflect.String:
		out.SetString(strings.Clone(v.String()))
	default:
		out.Set(v)
	}
	return out
}

// short gives the beginning of a long text.
func short(s string) string { return s[:min(len(s), 300)] }

// check asks Module for a text, byte by byte, decode for the module that it was, and Module for the same text once more.
func check(t *testing.T, m api.Module, want string) {
	t.Helper()
	s, e := Module(m)
	if e != api.OK || s != want {
		t.Errorf("P16.1: Module(%s): %q, %d; want %q", short(fmt.Sprint(m)), short(s), e, short(want))
		return
	}
	checkBack(t, m, s)
}

// checkBack asks that a module's text is read as it was, and written anew gives the same text.
func checkBack(t *testing.T, m api.Module, s string) {
	t.Helper()
	back, e := decode.Module(s)
	if e != api.OK || !same(back, m) {
		t.Errorf("P16.2: %q is read as %s, %d; want %s", short(s), short(fmt.Sprint(back)), e, short(fmt.Sprint(m)))
		return
	}
	if again, e := Module(back); e != api.OK || again != s {
		t.Errorf("P16.2: %q written anew: %q, %d", short(s), short(again), e)
	}
}

// taken asks for a text, whatever it is, and that it is read as it was.
func taken(t *testing.T, what string, m api.Module) {
	t.Helper()
	s, e := Module(m)
	if e != api.OK {
		t.Errorf("P16.1: %s: %d", what, e)
		return
	}
	checkBack(t, m, s)
}

// refused asks for ErrEncodeForm and an empty text.
func refused(t *testing.T, what string, m api.Module) {
	t.Helper()
	if s, e := Module(m); s != "" || e != api.ErrEncodeForm {
		t.Errorf("P16.1: %s: %q, %d", what, short(s), e)
	}
}
