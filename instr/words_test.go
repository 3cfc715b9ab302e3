package instr

import (
	"encoding/binary"
	"math"
	"slices"
	"testing"

	"pelorus/api"
	"pelorus/leb"
)

// What the tests share: the chapter's table written down a second time, by numbers, with a plain writer and a plain
// reader of it, and a row of lists.

// none is the shape of a number that is no Op.
const none = "-"

// shape tells what stands behind an Op: a, b: the numbers A, B; t: Type; y: Body; e: Else; l: Labels; 0: a byte 0;
// s, S: Bits with sign, of 32, of 64; f, F: Bits in 4, in 8 bytes.
func shape(op int) string {
	switch {
	case op == 0, op == 1, op == 15, op == 26, op == 27, op >= 69 && op <= 191:
		return ""
	case op == 2, op == 3:
		return "ty"
	case op == 4:
		return "tye"
	case op == 12, op == 13, op == 16, op >= 32 && op <= 36:
		return "a"
	case op == 14:
		return "l"
	case op == 17:
		return "a0"
	case op >= 40 && op <= 62:
		return "ab"
	case op == 63, op == 64:
		return "0"
	case op == 65:
		return "s"
	case op == 66:
		return "S"
	case op == 67:
		return "f"
	case op == 68:
		return "F"
	}
	return none
}

// plainest gives an instruction of an Op with all that it needs and nothing more.
func plainest(op int) api.Instr {
	i := api.Instr{Op: op}
	switch shape(op) {
	case "ty", "tye":
		i.Type = 64
	case "l":
		i.Labels = []int{0}
	}
	return i
}

// unsigned gives a number in as few parts as hold it.
func unsigned(x int) string { return string(binary.AppendUvarint(nil, uint64(x))) }

// signed gives a number with its sign in as few parts as hold it.
func signed(x int) string {
	if x >= -64 && x < 64 {
		return string([]byte{byte(x) & 127})
	}
	return string([]byte{byte(x) | 128}) + signed(x>>7)
}

// listText gives a list as the chapter's table has it.
func listText(is []api.Instr) string {
	out := ""
	for _, i := range is {
		out += instrText(i)
	}
	return out + "\x0b"
}

func instrText(i api.Instr) string {
	out := string([]byte{byte(i.Op)})
	for _, part := range shape(i.Op) {
		switch part {
		case 'a':
			out += unsigned(i.A)
		case 'b':
			out += unsigned(i.B)
		case 't':
			out += string([]byte{byte(i.Type)})
		case 'y':
			out += listText(i.Body)
		case 'e':
			if len(i.Else) > 0 {
				out = out[:len(out)-1] + "\x05" + listText(i.Else)
			}
		case 'l':
			out += unsigned(len(i.Labels) - 1)
			for _, label := range i.Labels {
				out += unsigned(label)
			}
		case '0':
			out += "\x00"
		case 's':
			out += signed(int(int32(i.Bits)))
		case 'S':
			out += signed(i.Bits)
		case 'f':
			out += string(binary.LittleEndian.AppendUint32(nil, uint32(i.Bits)))
		case 'F':
			out += string(binary.LittleEndian.AppendUint64(nil, uint64(i.Bits)))
		}
	}
	return out
}

// parser reads a list by the chapter's table; the first error that is met is thrown.
type parser struct {
	s     string
	at    int
	begun int
}

// parse gives what Get is to give.
func parse(s string, at int) (is []api.Instr, behind int, code api.Errno) {
	if at < 0 || at > len(s) {
		return nil, 0, api.ErrInstrForm
	}
	defer func() {
		if thrown, ok := recover().(api.Errno); ok {
			is, behind, code = nil, 0, thrown
		}
	}()
	p := &parser{s: s, at: at}
	is, _ = p.list(0, "\x0b")
	return is, p.at, api.OK
}

// need throws an error, if something does not hold.
func need(holds bool, code api.Errno) {
	if !holds {
		panic(code)
	}
}

func (p *parser) byte() int {
	need(p.at < len(p.s), api.ErrInstrCut)
	p.at++
	return int(p.s[p.at-1])
}

func (p *parser) number(bits int, get func(string, int, int) (int, int, api.Errno)) int {
	x, behind, code := get(p.s, p.at, bits)
	need(code != api.ErrLebCut, api.ErrInstrCut)
	need(code == api.OK, api.ErrInstrForm)
	p.at = behind
	return x
}

// list reads up to one of the bytes that may end the list, and gives that byte too.
func (p *parser) list(around int, ends string) ([]api.Instr, int) {
	var is []api.Instr
	for {
		op := p.byte()
		if slices.Contains([]byte(ends), byte(op)) {
			return is, op
		}
		need(shape(op) != none, api.ErrInstrOp)
		p.begun++
		need(p.begun <= 8192, api.ErrInstrForm)
		need(around < 32 || op < 2 || op > 4, api.ErrInstrNest)
		is = append(is, p.instr(op, around))
	}
}

func (p *parser) instr(op, around int) api.Instr {
	i := api.Instr{Op: op}
	last := 0
	for _, part := range shape(op) {
		switch part {
		case 'a':
			i.A = p.number(32, leb.Get)
		case 'b':
			i.B = p.number(32, leb.Get)
		case 't':
			i.Type = p.byte()
			need(slices.Contains([]int{64, 127, 126, 125, 124}, i.Type), api.ErrInstrForm)
		case 'y':
			ends := "\x0b"
			if op == 4 {
				ends = "\x0b\x05"
			}
			i.Body, last = p.list(around+1, ends)
		case 'e':
			if last == 5 {
				i.Else, _ = p.list(around+1, "\x0b")
			}
		case 'l':
			many := 1 + p.number(32, leb.Get)
			need(many <= 1024, api.ErrInstrForm)
			for range many {
				i.Labels = append(i.Labels, p.number(32, leb.Get))
			}
		case '0':
			need(p.byte() == 0, api.ErrInstrForm)
		case 's':
			i.Bits = p.number(32, leb.GetSigned) & (1<<32 - 1)
		case 'S':
			i.Bits = p.number(64, leb.GetSigned)
		case 'f', 'F':
			for k := range map[rune]int{'f': 4, 'F': 8}[part] {
				i.Bits |= p.byte() << (8 * k)
			}
		}
	}
	return i
}

// same tells whether two lists are alike; an empty list is nil.
func same(a, b []api.Instr) bool {
	return slices.EqualFunc(a, b, sameInstr)
}

func sameInstr(x, y api.Instr) bool {
	return x.Op == y.Op && x.A == y.A && x.B == y.B && x.Bits == y.Bits && x.Type == y.Type &&
		slices.Equal(x.Labels, y.Labels) && same(x.Body, y.Body) && same(x.Else, y.Else)
}

// twin gives a list with memory of its own.
func twin(is []api.Instr) []api.Instr {
	out := slices.Clone(is)
	for k := range out {
		out[k].Labels = slices.Clone(out[k].Labels)
		out[k].Body, out[k].Else = twin(out[k].Body), twin(out[k].Else)
	}
	return out
}

// spoil changes all that a list holds, spare room too.
func spoil(is []api.Instr) {
	is = is[:cap(is)]
	for k := range is {
		spoil(is[k].Body)
		spoil(is[k].Else)
		labels := is[k].Labels[:cap(is[k].Labels)]
		for n := range labels {
			labels[n] = -99
		}
		is[k] = api.Instr{Op: -99}
	}
}

// many gives n instructions without more.
func many(n int) []api.Instr {
	return slices.Repeat([]api.Instr{{Op: 1}}, n)
}

// blocks gives a list within so many blocks of an Op.
func blocks(op, deep int, inner []api.Instr) []api.Instr {
	for range deep {
		inner = []api.Instr{{Op: op, Type: 64, Body: inner}}
	}
	return inner
}

// elses gives a list within so many Elses.
func elses(deep int, inner []api.Instr) []api.Instr {
	for range deep {
		inner = []api.Instr{{Op: 4, Type: 64, Else: inner}}
	}
	return inner
}

// within gives a list within so many OpIfs, loops and Elses in turn.
func within(deep int, inner []api.Instr) []api.Instr {
	for k := range deep {
		switch k % 3 {
		case 0:
			inner = []api.Instr{{Op: 1}, {Op: 4, Type: 127, Body: inner, Else: many(1)}}
		case 1:
			inner = []api.Instr{{Op: 3, Type: 64, Body: inner}, {Op: 0}}
		case 2:
			inner = []api.Instr{{Op: 4, Type: 124, Body: many(2), Else: inner}}
		}
	}
	return inner
}

// numbers is a row of numbers.
type numbers uint64

func (r *numbers) below(n int) int {
	*r = *r*6364136223846793005 + 1442695040888963407
	return int(uint64(*r) >> 32 % uint64(n))
}

// word gives a number of 32 bits, often a small one or one at an end.
func (r *numbers) word() int {
	switch r.below(4) {
	case 0:
		return r.below(3)
	case 1:
		return 1<<32 - 1 - r.below(3)
	}
	return r.below(1<<32) >> r.below(32)
}

// wide gives a number of 64 bits, of any length and either sign.
func (r *numbers) wide() int {
	if r.below(6) == 0 {
		return []int{0, -1, math.MinInt, math.MaxInt, 1 << 31, -1 << 31}[r.below(6)]
	}
	return int(uint64(r.below(1<<31))<<33^uint64(r.below(1<<31))<<2^uint64(r.below(4))) >> r.below(64)
}

// list gives a list of fewer than most instructions, all of which may be, blocks within one another.
func (r *numbers) list(most, around int) []api.Instr {
	var out []api.Instr
	for range r.below(most) {
		op := r.below(192)
		if r.below(3) == 0 {
			op = 2 + r.below(3)
		}
		if shape(op) == none || around == 6 && op >= 2 && op <= 4 {
			continue
		}
		out = append(out, r.instr(op, around))
	}
	return out
}

func (r *numbers) instr(op, around int) api.Instr {
	i := api.Instr{Op: op}
	for _, part := range shape(op) {
		switch part {
		case 'a':
			i.A = r.word()
		case 'b':
			i.B = r.word()
		case 't':
			i.Type = []int{64, 127, 126, 125, 124}[r.below(5)]
		case 'y':
			i.Body = r.list(6, around+1)
		case 'e':
			i.Else = r.list(4, around+1)
		case 'l':
			for range 1 + r.below(5) {
				i.Labels = append(i.Labels, r.word())
			}
		case 's', 'f':
			i.Bits = r.word()
		case 'S', 'F':
			i.Bits = r.wide()
		}
	}
	return i
}

// checkPut asks Put of a list that may be.
func checkPut(t *testing.T, is []api.Instr, want string) {
	t.Helper()
	if got, code := Put(is); got != want || code != api.OK {
		t.Errorf("P14.1: Put(%v): %q, %d; want %q", is, short(got), code, short(want))
	}
}

// refusedPut asks Put for an error, without a text.
func refusedPut(t *testing.T, what any, is []api.Instr, code api.Errno) {
	t.Helper()
	if got, e := Put(is); got != "" || e != code {
		t.Errorf("P14.1: Put of %v: %q, %d; want %d", what, short(got), e, code)
	}
}

// checkGet asks Get of a text with a list at a place.
func checkGet(t *testing.T, s string, at int, want []api.Instr, behind int) {
	t.Helper()
	if is, place, code := Get(s, at); !same(is, want) || place != behind || code != api.OK {
		t.Errorf("P14.2: Get(%q, %d): %d instructions, %d, %d; want %d, %d", short(s), at, len(is), place, code, len(want), behind)
	}
}

// refusedGet asks Get for an error, with every other result its zero value; ahead of the text and behind other bytes.
func refusedGet(t *testing.T, s string, code api.Errno) {
	t.Helper()
	for _, ahead := range []string{"", "\x0b", "\x02\x40\x05"} {
		refusedAt(t, ahead+s, len(ahead), code)
	}
}

func refusedAt(t *testing.T, s string, at int, code api.Errno) {
	t.Helper()
	if is, behind, e := Get(s, at); is != nil || behind != 0 || e != code {
		t.Errorf("P14.2: Get(%q, %d): %v, %d, %d; want %d", short(s), at, is, behind, e, code)
	}
}

// short gives the beginning of a long text.
func short(s string) string { return s[:min(len(s), 200)] }

// checkBoth asks that a list is written as a text and read from it, at the text's beginning, and behind and ahead of
// other bytes.
func checkBoth(t *testing.T, is []api.Instr, text string) {
	t.Helper()
	checkPut(t, is, text)
	for _, around := range [][2]string{{"", ""}, {"\x0b", ""}, {"", "\x0b"}, {"\x04\x40\x05", "\x01\xff"}, {"\x80\xff", "\x05\x80"}} {
		at := len(around[0])
		checkGet(t, around[0]+text+around[1], at, is, at+len(text))
	}
}
