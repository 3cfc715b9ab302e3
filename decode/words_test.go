package decode

import (
	"encoding/binary"
	"fmt"
	"reflect"
	"slices"
	"strings"
	"testing"

	"pelorus/api"
	"pelorus/instr"
	"pelorus/leb"
	"pelorus/names"
)

// What the tests share: a plain writer of the chapter's form, a plain reader of its grammar, a row of modules, and the
// questions that are asked.

// begin is what each module begins with.
const begin = "\x00asm\x01\x00\x00\x00"

// one gives a byte.
func one(b int) string { return string([]byte{byte(b)}) }

// number gives a number in as few parts as hold it.
func number(x int) string { return string(binary.AppendUvarint(nil, uint64(x))) }

// longer gives a number of 32 bits in so many parts, or in as few more as hold it.
func longer(x, parts int) string {
	out := []byte(number(x))
	for len(out) < parts {
		out[len(out)-1] |= 128
		out = append(out, 0)
	}
	return string(out)
}

// sec gives a section.
func sec(id int, content string) string { return one(id) + number(len(content)) + content }

// items gives a list of so many times the same.
func items(many int, item string) string { return number(many) + strings.Repeat(item, many) }

// code gives a code with its size.
func code(s string) string { return number(len(s)) + s }

// writer writes modules: canonical ones, or, if it has numbers to choose by, any other form that the chapter allows.
type writer struct {
	choose *numbers
}

// chance tells, once in so many times, that another form is taken.
func (w writer) chance(n int) bool { return w.choose != nil && w.choose.below(n) == 0 }

func (w writer) number(x int) string {
	if w.chance(3) {
		return longer(x, 1+w.choose.below(5))
	}
	return number(x)
}

func (w writer) name(s string) string { return w.number(len(s)) + s }

func (w writer) flag(b bool) string {
	if b {
		return "\x01"
	}
	return "\x00"
}

func (w writer) limits(l api.Limits) string {
	if l.Most == -1 {
		return "\x00" + w.number(l.Least)
	}
	return "\x01" + w.number(l.Least) + w.number(l.Most)
}

func (w writer) instrs(is []api.Instr) string {
	out, e := instr.Put(is)
	if e != api.OK {
		panic(e)
	}
	return out
}

// each writes how many, then each.
func each[T any](w writer, all []T, item func(T) string) string {
	out := w.number(len(all))
	for _, x := range all {
		out += item(x)
	}
	return out
}

func (w writer) valueType(t int) string { return one(t) }

func (w writer) funcType(t api.FuncType) string {
	return "\x60" + each(w, t.Params, w.valueType) + each(w, t.Results, w.valueType)
}

func (w writer) table(l api.Limits) string { return "\x70" + w.limits(l) }

func (w writer) imported(i api.Import) string {
	out := w.name(i.Module) + w.name(i.Name) + one(i.Kind)
	switch i.Kind {
	case 0:
		return out + w.number(i.Type)
	case 1:
		return out + w.table(i.Limits)
	case 2:
		return out + w.limits(i.Limits)
	}
	return out + one(i.Type) + w.flag(i.Mut)
}

func (w writer) global(g api.Global) string { return one(g.Type) + w.flag(g.Mut) + w.instrs(g.Init) }

func (w writer) export(e api.Export) string { return w.name(e.Name) + one(e.Kind) + w.number(e.Index) }

func (w writer) elem(e api.Elem) string {
	return w.number(0) + w.instrs(e.Offset) + each(w, e.Funcs, w.number)
}

func (w writer) data(d api.Data) string {
	return w.number(0) + w.instrs(d.Offset) + w.number(len(d.Bytes)) + d.Bytes
}

func (w writer) code(c api.Code) string {
	s := w.locals(c.Locals) + w.instrs(c.Body)
	return w.number(len(s)) + s
}

// locals writes runs, each as long as it may be; in another form some of them in pieces, and empty ones between them.
func (w writer) locals(all []int) string {
	out, runs := "", 0
	for len(all) > 0 || w.chance(2) {
		n := 0
		for n < len(all) && all[n] == all[0] && !w.chance(4) {
			n++
		}
		t := 127
		if len(all) > 0 {
			t = all[0]
		}
		out += w.number(n) + one(t)
		all = all[n:]
		runs++
	}
	return w.number(runs) + out
}

// between gives custom sections, or none.
func (w writer) between() string {
	out := ""
	for w.chance(4) {
		content := w.name("note") + strings.Repeat("\xff", w.choose.below(9))
		out += "\x00" + w.number(len(content)) + content
	}
	return out
}

// module writes a module. A section without content is left out, but for some in another form.
func (w writer) module(m api.Module) string {
	out := begin
	put := func(id, many int, content string) {
		out += w.between()
		if many > 0 || id != 8 && w.chance(2) {
			out += one(id) + w.number(len(content)) + content
		}
	}
	put(1, len(m.Types), each(w, m.Types, w.funcType))
	put(2, len(m.Imports), each(w, m.Imports, w.imported))
	put(3, len(m.Funcs), each(w, m.Funcs, w.number))
	put(4, len(m.Tables), each(w, m.Tables, w.table))
	put(5, len(m.Mems), each(w, m.Mems, w.limits))
	put(6, len(m.Globals), each(w, m.Globals, w.global))
	put(7, len(m.Exports), each(w, m.Exports, w.export))
	put(8, m.Start+1, w.number(m.Start))
	put(9, len(m.Elems), each(w, m.Elems, w.elem))
	put(10, len(m.Codes), each(w, m.Codes, w.code))
	put(11, len(m.Datas), each(w, m.Datas, w.data))
	return out + w.between()
}

// text gives a module in its canonical form.
func text(m api.Module) string { return writer{}.module(m) }

// grammar reads by the chapter's words and writes down, in the canonical form, what it read: which error is told, and
// what the module of a text is to be.
type grammar struct {
	s    string
	at   int
	out  string
	code api.Errno
}

// canonical gives the canonical form of a text, or the error that Module is to tell.
func canonical(s string) (string, api.Errno) {
	if len(s) > 65536 {
		return "", api.ErrDecodeLong
	}
	if len(s) < 8 || s[:8] != begin {
		return "", api.ErrDecodeMagic
	}
	out, last, at := begin, 0, 8
	counts := map[int]int{}
	for at < len(s) {
		id := int(s[at])
		if id > 11 {
			return "", api.ErrDecodeSection
		}
		if id != 0 && id <= last {
			return "", api.ErrDecodeOrder
		}
		size, from, e := leb.Get(s, at+1, 32)
		if e != api.OK || from+size > len(s) {
			return "", api.ErrDecodeCut
		}
		g := &grammar{s: s[:from+size], at: from}
		counts[id] = g.section(id)
		if g.code == api.OK && id != 0 && g.at < len(g.s) {
			g.code = api.ErrDecodeSize
		}
		if g.code != api.OK {
			return "", g.code
		}
		if counts[id] > 0 {
			out += sec(id, g.out)
		}
		last, at = max(last, id), from+size
	}
	if counts[3] != counts[10] {
		return "", api.ErrDecodeCounts
	}
	return out, api.OK
}

// section reads a section and tells how much content it has.
func (g *grammar) section(id int) int {
	switch id {
	case 0:
		g.read('N')
		return 0
	case 8:
		g.read('n')
		return 1
	}
	most := 1024
	if id == 1 || id == 3 || id == 10 {
		most = 256
	}
	return g.list(most, [...]string{1: "6VV", 2: "NNi", 3: "n", 4: "7l", 5: "l", 6: "vfI", 7: "NKn", 9: "0IF", 10: "C", 11: "0IB"}[id])
}

// list reads a list of items of a shape.
func (g *grammar) list(most int, shape string) int {
	many := g.read('n')
	if g.code == api.OK && many > most {
		g.code = api.ErrDecodeLong
	}
	for k := 0; k < many && g.code == api.OK; k++ {
		for _, part := range shape {
			g.read(part)
		}
	}
	return many
}

// read reads one part of a shape, if nothing was wrong ahead of it: n: a number; 0: one that must be 0; N: a name; v: a
// value type; f: a byte 0 or 1; K: a kind; 6, 7: 0x60, 0x70; l: limits; i: what stands behind an import's names; I:
// instructions; V, F: lists of value types, of numbers; B: bytes; C: a code.
func (g *grammar) read(part rune) int {
	if g.code != api.OK {
		return 0
	}
	switch part {
	case 'n', '0', 'N', 'I', 'B':
		return g.long(part)
	case 'V':
		return g.list(1024, "v")
	case 'F':
		return g.list(1024, "n")
	case 'C':
		g.body()
		return 0
	case 'l', 'i':
		b := g.read(map[rune]rune{'l': 'f', 'i': 'K'}[part])
		for _, more := range map[rune][]string{'l': {"n", "nn"}, 'i': {"n", "7l", "l", "vf"}}[part][b] {
			g.read(more)
		}
		return 0
	}
	if g.at == len(g.s) {
		g.code = api.ErrDecodeForm
		return 0
	}
	b := g.s[g.at]
	if !slices.Contains([]byte(map[rune]string{'v': "\x7f\x7e\x7d\x7c", 'f': "\x00\x01", 'K': "\x00\x01\x02\x03", '6': "\x60", '7': "\x70"}[part]), b) {
		g.code = api.ErrDecodeForm
		return 0
	}
	g.at++
	g.out += one(int(b))
	return int(b)
}

// long reads what the layers 12 to 14 read, and bytes.
func (g *grammar) long(part rune) int {
	x, behind, e := 0, 0, api.OK
	out := ""
	switch part {
	case 'n', '0', 'B':
		x, behind, e = leb.Get(g.s, g.at, 32)
		out = number(x)
	case 'N':
		out, behind, e = names.Get(g.s, g.at)
		out = number(len(out)) + out
	case 'I':
		var is []api.Instr
		is, behind, e = instr.Get(g.s, g.at)
		out, _ = instr.Put(is)
	}
	switch {
	case e == api.ErrNameLong:
		g.code = api.ErrDecodeLong
	case e == api.ErrInstrNest:
		g.code = api.ErrDecodeNest
	case e != api.OK, part == '0' && x != 0, part == 'B' && behind+x > len(g.s):
		g.code = api.ErrDecodeForm
	case part == 'B':
		out += g.s[behind : behind+x]
		behind += x
	}
	if g.code != api.OK {
		return 0
	}
	g.at, g.out = behind, g.out+out
	return x
}

// body reads a code: its size, its runs of locals, its instructions.
func (g *grammar) body() {
	ahead := g.out
	size := g.read('n')
	from := g.at
	runs := g.list(1024, "")
	var all []int
	for k := 0; k < runs && g.code == api.OK; k++ {
		many := g.read('n')
		if g.code == api.OK && len(all)+many > 256 {
			g.code = api.ErrDecodeLong
		}
		if t := g.read('v'); g.code == api.OK {
			all = append(all, slices.Repeat([]int{t}, many)...)
		}
	}
	g.out = ""
	g.read('I')
	if g.code == api.OK && g.at != from+size {
		g.code = api.ErrDecodeSize
	}
	g.out = ahead + code(writer{}.locals(all)+g.out)
}

// numbers is a row of numbers.
type numbers uint64

func (r *numbers) below(n int) int {
	*r = *r*6364136223846793005 + 1442695040888963407
	return int(uint64(*r) >> 32 % uint64(n))
}

// word gives a number of 32 bits, often a small one or one at an end.
func (r *numbers) word() int {
	switch r.below(4) {
	case 0:
		return 1<<32 - 1 - r.below(2)
	case 1:
		return r.below(1 << 32)
	}
	return r.below(200)
}

func (r *numbers) name() string {
	return []string{"", "m", "memory", "a\x00b", "\u65e5\u672c", "\U0001f600", strings.Repeat("n", 63) + "\x7f"}[r.below(7)]
}

func (r *numbers) valueType() int { return 124 + r.below(4) }

func (r *numbers) valueTypes() []int { return several(r, 4, r.valueType) }

func (r *numbers) limits() api.Limits {
	l := api.Limits{Least: r.word(), Most: -1}
	if r.below(2) == 0 {
		l.Most = r.word()
	}
	return l
}

func (r *numbers) instr() api.Instr {
	switch r.below(6) {
	case 0:
		return api.Instr{Op: 65, Bits: r.word()}
	case 1:
		return api.Instr{Op: 4, Type: 64, Body: []api.Instr{{Op: 1}}, Else: []api.Instr{{Op: 14, Labels: []int{r.word(), 0}}}}
	case 2:
		return api.Instr{Op: 2, Type: r.valueType(), Body: several(r, 3, r.instr)}
	case 3:
		return api.Instr{Op: 40, A: 2, B: r.word()}
	case 4:
		return api.Instr{Op: 68, Bits: -1 - r.word()}
	}
	return api.Instr{Op: 106}
}

func (r *numbers) instrs() []api.Instr { return several(r, 4, r.instr) }

func (r *numbers) imported() api.Import {
	i := api.Import{Module: r.name(), Name: r.name(), Kind: r.below(4)}
	switch i.Kind {
	case 0:
		i.Type = r.word()
	case 3:
		i.Type, i.Mut = r.valueType(), r.below(2) == 0
	default:
		i.Limits = r.limits()
	}
	return i
}

// several gives a list of fewer than so many, often of none.
func several[T any](r *numbers, most int, item func() T) []T {
	var all []T
	for range r.below(most) {
		all = append(all, item())
	}
	return all
}

// module gives a module of all kinds of parts.
func (r *numbers) module() api.Module {
	m := api.Module{Start: -1}
	m.Types = several(r, 4, func() api.FuncType { return api.FuncType{Params: r.valueTypes(), Results: r.valueTypes()} })
	m.Imports = several(r, 5, r.imported)
	m.Funcs = several(r, 4, r.word)
	m.Tables = several(r, 3, r.limits)
	m.Mems = several(r, 3, r.limits)
	m.Globals = several(r, 3, func() api.Global { return api.Global{Type: r.valueType(), Mut: r.below(2) == 0, Init: r.instrs()} })
	m.Exports = several(r, 4, func() api.Export { return api.Export{Name: r.name(), Kind: r.below(4), Index: r.word()} })
	if r.below(2) == 0 {
		m.Start = r.word()
	}
	m.Elems = several(r, 3, func() api.Elem { return api.Elem{Offset: r.instrs(), Funcs: several(r, 4, r.word)} })
	for range m.Funcs {
		m.Codes = append(m.Codes, api.Code{Locals: several(r, 7, r.valueType), Body: r.instrs()})
	}
	m.Datas = several(r, 3, func() api.Data {
		return api.Data{Offset: r.instrs(), Bytes: strings.Repeat("\xff\x0b\x00", r.below(4))}
	})
	return m
}

// same tells whether two modules are alike; an empty list is nil.
func same(a, b api.Module) bool { return reflect.DeepEqual(plain(a), plain(b)) }

// plain gives a module with nil in place of each empty list.
func plain(m api.Module) api.Module {
	v := reflect.New(reflect.TypeOf(m)).Elem()
	v.Set(plainValue(reflect.ValueOf(m)))
	return v.Interface().(api.Module)
}

func plainValue(v reflect.Value) reflect.Value {
	out := reflect.New(v.Type()).Elem()
	switch v.Kind() {
	case reflect.Slice:
		for k := range v.Len() {
			out = reflect.Append(out, plainValue(v.Index(k)))
		}
	case reflect.Struct:
		for k := range v.NumField() {
			out.Field(k).Set(plainValue(v.Field(k)))
		}
	default:
		out.Set(v)
	}
	return out
}

// short gives the beginning of a long text.
func short(s string) string { return s[:min(len(s), 300)] }

// check asks Module of a text that has a module.
func check(t *testing.T, s string, want api.Module) {
	t.Helper()
	if m, e := Module(s); e != api.OK || !same(m, want) {
		t.Errorf("P15.1: Module(%q): %s, %d; want %s", short(s), short(fmt.Sprint(m)), e, short(fmt.Sprint(want)))
	}
}

// refused asks Module for an error, with the zero value beside it.
func refused(t *testing.T, s string, want api.Errno) {
	t.Helper()
	if m, e := Module(s); e != want || !reflect.DeepEqual(m, api.Module{}) {
		t.Errorf("P15.1: Module(%q), %d bytes: %s, %d; want %d", short(s), len(s), short(fmt.Sprint(m)), e, want)
	}
}

// refusedSec asks for an error of a section's content, which tells it at whatever place the section stands.
func refusedSec(t *testing.T, id int, content string, want api.Errno) {
	t.Helper()
	for _, around := range [][2]string{{"", ""}, {sec(0, "\x01c\xff"), ""}, {"", sec(0, "\x01c\x00\x00")}, {"", "\x0c"}, {"", "\x01"}} {
		refused(t, begin+around[0]+sec(id, content)+around[1], want)
	}
}

// checkSec asks Module of a section alone.
func checkSec(t *testing.T, id int, content string, want api.Module) {
	t.Helper()
	check(t, begin+sec(id, content), want)
}

// checkGrammar asks Module for just what the grammar says of a text.
func checkGrammar(t *testing.T, s string) {
	t.Helper()
	want, code := canonical(s)
	if code != api.OK {
		refused(t, s, code)
		return
	}
	m, e := Module(s)
	if e != api.OK || text(m) != want {
		t.Errorf("P15.1: Module(%q): %s, %d; want the module of %q", short(s), short(fmt.Sprint(m)), e, short(want))
	}
}
