package instr

import (
	"fmt"
	"math"
	"slices"
	"strings"
	"sync"
	"testing"

	"pelorus/api"
)

// Each byte where an Op is: those of the table begin an instruction, 0x0b ends the list, the others are ErrInstrOp.
func TestEveryByte(t *testing.T) {
	for b := range 256 {
		text := string([]byte{byte(b)})
		switch {
		case b == 0x0b:
			checkGet(t, text, 0, nil, 1)
			checkGet(t, "\x01"+text+text, 0, many(1), 2)
		case shape(b) == none:
			refusedGet(t, text, api.ErrInstrOp)
			refusedGet(t, "\x01"+text+"\x0b", api.ErrInstrOp)
			refusedGet(t, "\x02\x40"+text+"\x0b\x0b", api.ErrInstrOp)
			if b != 0x05 {
				refusedGet(t, "\x04\x40"+text+"\x0b\x0b", api.ErrInstrOp)
			}
			refusedGet(t, "\x04\x40\x05"+text+"\x0b\x0b", api.ErrInstrOp)
		default:
			refusedGet(t, text, api.ErrInstrCut)
		}
	}
}

// 0x05 ends the Body of an OpIf, and nothing else; an empty Else behind it is as none.
func TestElse(t *testing.T) {
	nop := many(1)
	for _, c := range []struct {
		text string
		want []api.Instr
	}{
		{"\x04\x40\x05\x0b\x0b", []api.Instr{{Op: 4, Type: 64}}},
		{"\x04\x40\x01\x05\x0b\x0b", []api.Instr{{Op: 4, Type: 64, Body: nop}}},
		{"\x04\x40\x05\x01\x0b\x0b", []api.Instr{{Op: 4, Type: 64, Else: nop}}},
		{"\x04\x40\x04\x40\x05\x0b\x05\x01\x0b\x0b", []api.Instr{{Op: 4, Type: 64, Body: []api.Instr{{Op: 4, Type: 64}}, Else: nop}}},
		{"\x04\x40\x05\x04\x40\x05\x01\x0b\x0b\x0b", []api.Instr{{Op: 4, Type: 64, Else: []api.Instr{{Op: 4, Type: 64, Else: nop}}}}},
		{"\x04\x40\x02\x40\x0b\x05\x03\x40\x0b\x0b\x0b", []api.Instr{{Op: 4, Type: 64, Body: []api.Instr{{Op: 2, Type: 64}}, Else: []api.Instr{{Op: 3, Type: 64}}}}},
		{"\x02\x40\x04\x40\x05\x0b\x0b\x0b", []api.Instr{{Op: 2, Type: 64, Body: []api.Instr{{Op: 4, Type: 64}}}}},
		// A number 5 is no 0x05.
		{"\x04\x40\x0c\x05\x0b\x0b", []api.Instr{{Op: 4, Type: 64, Body: []api.Instr{{Op: 12, A: 5}}}}},
	} {
		checkGet(t, c.text, 0, c.want, len(c.text))
	}
	for _, text := range []string{
		"\x05",
		"\x05\x0b",
		"\x01\x05\x0b",
		"\x02\x40\x05\x0b\x0b",
		"\x03\x40\x01\x05\x01\x0b\x0b",
		"\x04\x40\x05\x05\x0b\x0b",
		"\x04\x40\x01\x05\x01\x05\x01\x0b\x0b",
		"\x04\x40\x0b\x05\x0b",
		"\x04\x40\x05\x0b\x05\x0b",
		"\x04\x40\x02\x40\x05\x0b\x0b\x0b",
		"\x04\x40\x03\x40\x01\x05\x0b\x0b\x0b",
		"\x04\x40\x05\x02\x40\x05\x0b\x0b\x0b",
	} {
		refusedGet(t, text, api.ErrInstrOp)
	}
}

// Each byte as a block's Type.
func TestEveryType(t *testing.T) {
	for op := 2; op <= 4; op++ {
		for b := range 256 {
			text := string([]byte{byte(op), byte(b)})
			if slices.Contains([]int{64, 127, 126, 125, 124}, b) {
				checkGet(t, text+"\x0b\x0b", 0, []api.Instr{{Op: op, Type: b}}, 4)
				refusedGet(t, text, api.ErrInstrCut)
				continue
			}
			refusedGet(t, text+"\x0b\x0b", api.ErrInstrForm)
			refusedGet(t, text, api.ErrInstrForm)
			refusedGet(t, text+"\xff", api.ErrInstrForm)
		}
	}
}

// A byte that must be 0 and is not; no longer form of 0 is one.
func TestBytesOfZero(t *testing.T) {
	for b := range 256 {
		for front, want := range map[string]api.Instr{
			"\x11\x07":     {Op: 17, A: 7},
			"\x11\x80\x00": {Op: 17},
			"\x3f":         {Op: 63},
			"\x40":         {Op: 64},
		} {
			text := front + string([]byte{byte(b)})
			if b == 0 {
				checkGet(t, text+"\x0b", 0, []api.Instr{want}, len(text)+1)
				continue
			}
			refusedGet(t, text, api.ErrInstrForm)
			refusedGet(t, text+"\x0b", api.ErrInstrForm)
			refusedGet(t, text+"\x00\x0b", api.ErrInstrForm)
		}
	}
}

// numberPlace is a place where a number stands: what is ahead of it, what behind, how many bits it has, and its sign.
type numberPlace struct {
	front  string
	behind string
	bits   int
	signed bool
	want   func(x int) api.Instr
}

func numberPlaces() []numberPlace {
	all := []numberPlace{
		{"\x11", "\x00", 32, false, func(x int) api.Instr { return api.Instr{Op: 17, A: x} }},
		{"\x0e\x00", "", 32, false, func(x int) api.Instr { return api.Instr{Op: 14, Labels: []int{x}} }},
		{"\x0e\x02\x07", "\x09", 32, false, func(x int) api.Instr { return api.Instr{Op: 14, Labels: []int{7, x, 9}} }},
		{"\x0e\x01\x07", "", 32, false, func(x int) api.Instr { return api.Instr{Op: 14, Labels: []int{7, x}} }},
		{"\x41", "", 32, true, func(x int) api.Instr { return api.Instr{Op: 65, Bits: x & (1<<32 - 1)} }},
		{"\x42", "", 64, true, func(x int) api.Instr { return api.Instr{Op: 66, Bits: x} }},
	}
	for op := range 256 {
		front := string([]byte{byte(op)})
		switch shape(op) {
		case "a":
			all = append(all, numberPlace{front, "", 32, false, func(x int) api.Instr { return api.Instr{Op: op, A: x} }})
		case "ab":
			all = append(all,
				numberPlace{front, "\x06", 32, false, func(x int) api.Instr { return api.Instr{Op: op, A: x, B: 6} }},
				numberPlace{front + "\x06", "", 32, false, func(x int) api.Instr { return api.Instr{Op: op, A: 6, B: x} }})
		}
	}
	return all
}

// Numbers in longer forms are read wherever a number stands.
func TestLongerForms(t *testing.T) {
	for _, p := range numberPlaces() {
		forms := map[string]int{"\x80\x00": 0, "\x85\x80\x00": 5, "\xff\x80\x80\x80\x00": 127, "\xbf\x80\x00": 63}
		if p.signed {
			forms["\xff\x7f"] = -1
			forms["\xff\xff\xff\xff\x7f"] = -1
			forms["\x80\x80\x80\x80\x78"] = -1 << 31
			forms["\xff\xff\xff\xff\x07"] = 1<<31 - 1
		} else {
			forms["\xff\xff\xff\xff\x0f"] = 1<<32 - 1
			forms["\xfe\xff\x00"] = 16382
		}
		if p.bits == 64 {
			forms["\x83\x80\x80\x80\x80\x80\x80\x80\x80\x00"] = 3
			forms["\xff\xff\xff\xff\xff\xff\xff\xff\xff\x7f"] = -1
			forms["\x80\x80\x80\x80\x80\x80\x80\x80\x80\x7f"] = math.MinInt
		}
		for form, x := range forms {
			text := p.front + form + p.behind + "\x0b"
			checkGet(t, text, 0, []api.Instr{p.want(x)}, len(text))
		}
	}
	// How many Labels there are, in longer forms.
	checkGet(t, "\x0e\x80\x00\x07\x0b", 0, []api.Instr{{Op: 14, Labels: []int{7}}}, 5)
	checkGet(t, "\x0e\x81\x80\x80\x80\x00\x07\x08\x0b", 0, []api.Instr{{Op: 14, Labels: []int{7, 8}}}, 9)
}

// Numbers that layer 12 refuses are ErrInstrForm, those that are cut ErrInstrCut.
func TestRefusedNumbers(t *testing.T) {
	for _, p := range append(numberPlaces(), numberPlace{"\x0e", "\x00", 32, false, nil}) {
		wrong, most := []string{"\x80\x80\x80\x80\x80\x00", "\xff\xff\xff\xff\xff"}, 5
		switch {
		case p.bits == 64:
			wrong, most = []string{"\x80\x80\x80\x80\x80\x80\x80\x80\x80\x01", "\xff\xff\xff\xff\xff\xff\xff\xff\xff\x7e", strings.Repeat("\x80", 10)}, 10
		case p.signed:
			wrong = append(wrong, "\x80\x80\x80\x80\x08", "\xff\xff\xff\xff\x0f", "\x80\x80\x80\x80\x70", "\xff\xff\xff\xff\x77")
		default:
			wrong = append(wrong, "\x80\x80\x80\x80\x10", "\xff\xff\xff\xff\x7f", "\x80\x80\x80\x80\x40")
		}
		for _, form := range wrong {
			refusedGet(t, p.front+form, api.ErrInstrForm)
			refusedGet(t, p.front+form+p.behind+"\x0b", api.ErrInstrForm)
		}
		for parts := range most {
			refusedGet(t, p.front+strings.Repeat("\x80", parts), api.ErrInstrCut)
			refusedGet(t, p.front+strings.Repeat("\xff", parts), api.ErrInstrCut)
		}
	}
}

// One Label, MaxItems Labels and one more, which is refused by its number alone.
func TestGetLabels(t *testing.T) {
	for _, n := range []int{1, 2, 128, 1023, 1024} {
		text := "\x0e" + unsigned(n-1) + strings.Repeat("\x03", n) + "\x0b"
		checkGet(t, text, 0, []api.Instr{{Op: 14, Labels: slices.Repeat([]int{3}, n)}}, len(text))
		refusedGet(t, text[:len(text)-2], api.ErrInstrCut)
	}
	for _, n := range []int{1025, 1026, 2048, 1 << 20, 1 << 31, 1 << 32} {
		refusedGet(t, "\x0e"+unsigned(n-1), api.ErrInstrForm)
		refusedGet(t, "\x0e"+unsigned(n-1)+strings.Repeat("\x00", min(n, 3000))+"\x0b", api.ErrInstrForm)
	}
	// What the number tells is met ahead of a wrong Label, and a wrong Label ahead of the text's end.
	refusedGet(t, "\x0e\x80\x08\xff\xff\xff\xff\xff", api.ErrInstrForm)
	refusedGet(t, "\x0e\xff\x07\xff\xff\xff\xff\xff", api.ErrInstrForm)
	refusedGet(t, "\x0e\xff\x07\xff\xff\xff\xff", api.ErrInstrCut)
}

// Blocks one deeper than MaxNest are ErrInstrNest as soon as they begin.
func TestGetDepth(t *testing.T) {
	fronts := map[string]string{"\x02\x40": "\x0b", "\x03\x7f": "\x0b", "\x04\x7e": "\x0b", "\x04\x40\x05": "\x0b", "\x04\x7c\x01\x05\x01": "\x0b", "\x01\x02\x40": "\x0b\x01"}
	for front, end := range fronts {
		deep := strings.Repeat(front, 32)
		ends := strings.Repeat(end, 32) + "\x0b"
		if is, behind, code := Get(deep+ends, 0); is == nil || behind != len(deep)+len(ends) || code != api.OK {
			t.Errorf("P14.2: %q: %d, %d", front, behind, code)
		}
		for op := 2; op <= 4; op++ {
			begin := string([]byte{byte(op)})
			for _, more := range []string{"", "\x40", "\x40\x0b" + ends, "\x00", "\xff\xff", "\x40\x05"} {
				refusedGet(t, deep+begin+more, api.ErrInstrNest)
				refusedGet(t, deep+"\x01\x1a"+begin+more, api.ErrInstrNest)
			}
		}
		refusedGet(t, deep+"\x06", api.ErrInstrOp)
		refusedGet(t, deep, api.ErrInstrCut)
		refusedGet(t, strings.Repeat(front, 5000), api.ErrInstrNest)
		// As deep as they may be, once more behind others.
		side := deep + strings.Repeat(end, 32) + deep + ends
		if _, behind, code := Get(side, 0); behind != len(side) || code != api.OK {
			t.Errorf("P14.2: %q twice: %d, %d", front, behind, code)
		}
	}
}

// One more than MaxBody is ErrInstrForm as soon as it begins, in one list and spread over blocks.
func TestGetHowMany(t *testing.T) {
	for name, c := range map[string][2]string{
		"one list":       {strings.Repeat("\x01", 8192), "\x0b"},
		"in a block":     {"\x02\x40" + strings.Repeat("\x1a", 8191), "\x0b\x0b"},
		"in an If":       {"\x04\x40" + strings.Repeat("\x1a", 8191), "\x0b\x0b"},
		"in an Else":     {"\x04\x40" + strings.Repeat("\x1a", 91) + "\x05" + strings.Repeat("\x1a", 8100), "\x0b\x0b"},
		"behind blocks":  {strings.Repeat("\x02\x40\x01\x0b", 4096), "\x0b"},
		"blocks alone":   {strings.Repeat("\x03\x7f\x0b", 8192), "\x0b"},
		"deep":           {strings.Repeat("\x02\x40", 32) + strings.Repeat("\x01", 8160), strings.Repeat("\x0b", 33)},
		"with numbers":   {strings.Repeat("\x41\x85\x80\x00", 8192), "\x0b"},
		"an If at last":  {strings.Repeat("\x01", 8191) + "\x04\x40", "\x0b\x0b"},
		"Else behind it": {"\x04\x40" + strings.Repeat("\x1a", 8191) + "\x05", "\x0b\x0b"},
	} {
		full, ends := c[0], c[1]
		if is, behind, code := Get(full+ends, 0); Count(is) != 8192 || behind != len(full)+len(ends) || code != api.OK {
			t.Errorf("P14.2: %s: %d, %d, %d", name, Count(is), behind, code)
		}
		refusedGet(t, full, api.ErrInstrCut)
		for _, more := range []string{"\x01", "\x01" + ends, "\x41", "\x43", "\x0c\xff\xff\xff\xff\xff", "\x11\x00\x01", "\x0e\x80\x08", "\x02", "\x02\x41"} {
			refusedGet(t, full+more, api.ErrInstrForm)
		}
		refusedGet(t, full+"\x06", api.ErrInstrOp)
		refusedGet(t, full+"\xff"+ends, api.ErrInstrOp)
		refusedGet(t, "\x01"+full+ends, api.ErrInstrForm)
	}
}

// One more than MaxBody that would stand too deep is one too many, as Put has it.
func TestOneMoreTooDeep(t *testing.T) {
	text := strings.Repeat("\x02\x40", 32) + strings.Repeat("\x01", 8160)
	refusedGet(t, text+"\x02", api.ErrInstrForm)
	refusedGet(t, text[:len(text)-1]+"\x02", api.ErrInstrNest)
}

// 'at' from 0 to the length: at the length the text ends ahead of the list; beyond it and below 0 it is no place.
func TestPlaces(t *testing.T) {
	for _, s := range []string{"", "\x0b", "\x01\x0b", "\x06", "\x02\x40\x0b\x0b\x01\x0b"} {
		refusedAt(t, s, len(s), api.ErrInstrCut)
		for _, beyond := range []int{1, 2, 10, 1 << 32, math.MaxInt - len(s)} {
			refusedAt(t, s, len(s)+beyond, api.ErrInstrForm)
		}
		for _, below := range []int{-1, -2, -10, -1 << 32, math.MinInt, math.MinInt + 1} {
			refusedAt(t, s, below, api.ErrInstrForm)
		}
	}
	s := "\x01\x0b\x0b\x1a\x00\x0b\x05"
	checkGet(t, s, 0, many(1), 2)
	checkGet(t, s, 1, nil, 2)
	checkGet(t, s, 2, nil, 3)
	checkGet(t, s, 3, []api.Instr{{Op: 26}, {Op: 0}}, 6)
	checkGet(t, s, 5, nil, 6)
	refusedAt(t, s, 6, api.ErrInstrOp)
	refusedAt(t, s, 7, api.ErrInstrCut)
}

// Lists one behind the other are read one by one, up to the text's end.
func TestListsInARow(t *testing.T) {
	r := numbers(3)
	var lists [][]api.Instr
	text := ""
	for range 50 {
		is := r.list(9, 0)
		lists, text = append(lists, is), text+listText(is)
	}
	at := 0
	for _, is := range lists {
		behind := at + len(listText(is))
		checkGet(t, text, at, is, behind)
		at = behind
	}
	refusedAt(t, text, at, api.ErrInstrCut)
}

// A text cut at every place is ErrInstrCut.
func TestCutEverywhere(t *testing.T) {
	r := numbers(4)
	texts := []string{listText(within(32, many(2)))}
	for op := range 256 {
		if shape(op) != none {
			texts = append(texts, listText([]api.Instr{r.instr(op, 0), plainest(op)}))
		}
	}
	for range 300 {
		texts = append(texts, listText(r.list(9, 0)))
	}
	for _, text := range texts {
		for k := range text {
			refusedGet(t, text[:k], api.ErrInstrCut)
		}
	}
}

// Which of two errors goes ahead: what is met first.
func TestMetFirst(t *testing.T) {
	for text, code := range map[string]api.Errno{
		"\x06\x02\x00":                                    api.ErrInstrOp,
		"\x02\x00\x06":                                    api.ErrInstrForm,
		"\x3f\x01\x06":                                    api.ErrInstrForm,
		"\x01\x05\x3f\x01":                                api.ErrInstrOp,
		"\x0c\x80":                                        api.ErrInstrCut,
		"\x11\xff\xff\xff\xff\xff\x01":                    api.ErrInstrForm,
		"\x28\x80\x80\x80\x80\x10\x80":                    api.ErrInstrForm,
		"\x28\x80":                                        api.ErrInstrCut,
		"\x28\x02\x80":                                    api.ErrInstrCut,
		"\x43\x00\x00\x00":                                api.ErrInstrCut,
		"\x44\xff\xff\xff\xff\xff\xff\xff":                api.ErrInstrCut,
		"\x43\x06\x06\x06\x06\x06":                        api.ErrInstrOp,
		"\x44\xff\xff\xff\xff\xff\xff\xff\xff":            api.ErrInstrCut,
		strings.Repeat("\x02\x40", 32) + "\x02\x00":       api.ErrInstrNest,
		strings.Repeat("\x02\x40", 31) + "\x02\x00\x02":   api.ErrInstrForm,
		strings.Repeat("\x02\x40", 32) + "\x06\x02\x40":   api.ErrInstrOp,
		strings.Repeat("\x02\x40", 32) + "\x3f\x01\x02":   api.ErrInstrForm,
		strings.Repeat("\x02\x40", 33) + "\x06":           api.ErrInstrNest,
		strings.Repeat("\x02\x40", 32) + "\x0b\x02\x41":   api.ErrInstrForm,
		strings.Repeat("\x04\x40\x05", 32) + "\x05\x04":   api.ErrInstrOp,
		strings.Repeat("\x04\x40", 32) + "\x05\x04\x00":   api.ErrInstrNest,
		strings.Repeat("\x04\x40\x05", 31) + "\x04\x7b":   api.ErrInstrForm,
		strings.Repeat("\x01", 8193) + "\x06":             api.ErrInstrForm,
		strings.Repeat("\x01", 8191) + "\x06\x01\x01":     api.ErrInstrOp,
		strings.Repeat("\x01", 8191) + "\x3f\x01\x01\x01": api.ErrInstrForm,
	} {
		refusedGet(t, text, code)
	}
}

// What was put is got, whatever stands around it.
func TestThereAndBack(t *testing.T) {
	r := numbers(14)
	for range 4000 {
		is := r.list(12, 0)
		text, code := Put(is)
		if want := listText(is); text != want || code != api.OK {
			t.Fatalf("P14.1: %v: %q, %d; want %q", is, text, code, want)
		}
		ahead := strings.Repeat("\x0b", r.below(4))
		back, behind, code := Get(ahead+text+strings.Repeat("\x01", r.below(3)), len(ahead))
		if !same(back, is) || behind != len(ahead)+len(text) || code != api.OK {
			t.Fatalf("P14.3: %v: %v, %d, %d", is, back, behind, code)
		}
		if again, code := Put(back); again != text || code != api.OK {
			t.Fatalf("P14.3: %q: %q, %d", text, again, code)
		}
	}
}

// Texts with bytes changed, lost and added are read as the chapter's table has it; what is read is put again.
func TestBesideTheTable(t *testing.T) {
	r := numbers(41)
	counts := map[api.Errno]int{}
	for range 60000 {
		text := []byte(listText(r.list(8, 0)))
		for range r.below(4) {
			k := r.below(len(text))
			switch b := []byte{0, 1, 2, 4, 5, 5, 0x0b, 0x40, 0x7f, 0x80, 0xff, byte(r.below(256))}[r.below(12)]; r.below(3) {
			case 0:
				text[k] = b
			case 1:
				text = slices.Insert(text, k, b)
			case 2:
				text = append(slices.Delete(text, k, k+1), 0x0b)
			}
		}
		s, at := string(text), r.below(3)%(len(text)+1)
		is, behind, code := Get(s, at)
		want, place, e := parse(s, at)
		if !same(is, want) || behind != place || code != e {
			t.Fatalf("P14.2: Get(%q, %d): %v, %d, %d; want %v, %d, %d", s, at, is, behind, code, want, place, e)
		}
		counts[code]++
		if put, f := Put(is); code == api.OK && (f != api.OK || put != listText(is)) {
			t.Fatalf("P14.3: %q: %q, %d", s, put, f)
		}
	}
	for _, code := range []api.Errno{api.OK, api.ErrInstrCut, api.ErrInstrOp, api.ErrInstrForm} {
		if counts[code] < 500 {
			t.Errorf("too few of a kind: %v", counts)
		}
	}
}

// Bytes without a plan, and such as nest, beside the table.
func TestAnyBytes(t *testing.T) {
	r := numbers(99)
	for range 30000 {
		text := make([]byte, r.below(90))
		for k := range text {
			text[k] = byte(r.below(256))
			if r.below(3) > 0 {
				text[k] = []byte{1, 2, 0x40, 4, 5, 0x0b, 0x41, 0x0e, 0x7f, 0}[r.below(10)]
			}
		}
		s := strings.Repeat("\x04\x40", r.below(34)) + string(text)
		is, behind, code := Get(s, 0)
		if want, place, e := parse(s, 0); !same(is, want) || behind != place || code != e {
			t.Fatalf("P14.2: Get(%q): %v, %d, %d; want %v, %d, %d", s, is, behind, code, want, place, e)
		}
	}
}

// lists gives each list that a list holds, itself too.
func lists(is []api.Instr) [][]api.Instr {
	all := [][]api.Instr{is}
	for _, i := range is {
		all = append(all, lists(i.Body)...)
		all = append(all, lists(i.Else)...)
	}
	return all
}

// The lists of one answer, and those of two, share no memory.
func TestAnswersShareNothing(t *testing.T) {
	is := []api.Instr{{Op: 14, Labels: []int{1, 2, 3}}, {Op: 4, Type: 64, Body: within(5, many(3)), Else: []api.Instr{{Op: 14, Labels: []int{4}}, {Op: 14, Labels: []int{5}}}}}
	text := listText(is)
	first, _, _ := Get(text, 0)
	second, _, _ := Get(text, 0)
	spoil(second)
	if !same(first, is) {
		t.Errorf("R4: two answers share memory")
	}
	seen := map[*api.Instr]int{}
	labels := map[*int]int{}
	for _, list := range lists(first) {
		for k := range list[:cap(list)] {
			seen[&list[:cap(list)][k]]++
		}
		for _, i := range list {
			for k := range i.Labels[:cap(i.Labels)] {
				labels[&i.Labels[:cap(i.Labels)][k]]++
			}
		}
	}
	for place, times := range seen {
		if times != 1 {
			t.Errorf("R4: %v stands in %d lists", *place, times)
		}
	}
	for place, times := range labels {
		if times != 1 {
			t.Errorf("R4: label %d stands in %d lists", *place, times)
		}
	}
}

// Plain functions, from several goroutines at one time.
func TestAtOneTime(t *testing.T) {
	is := within(20, []api.Instr{{Op: 14, Labels: []int{1, 2}}})
	text := listText(is)
	var all sync.WaitGroup
	for range 8 {
		all.Go(func() {
			for range 100 {
				back, behind, code := Get(text, 0)
				put, e := Put(is)
				if !same(back, is) || behind != len(text) || code != api.OK || put != text || e != api.OK || Count(is) != Count(back) {
					t.Error("R5: ", fmt.Sprint(behind, code, e))
				}
				n := 0
				for range All(is) {
					n++
				}
				if n != Count(is) {
					t.Errorf("R5: %d of %d", n, Count(is))
				}
			}
		})
	}
	all.Wait()
}
