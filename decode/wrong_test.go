package decode

import (
	"slices"
	"strings"
	"testing"

	"pelorus/api"
)

// A text shorter than the head, and each byte of it turned.
func TestHead(t *testing.T) {
	_, s, _ := whole()
	for k := range len(begin) {
		refused(t, begin[:k], api.ErrDecodeMagic)
		for b := range 256 {
			if byte(b) != begin[k] {
				refused(t, begin[:k]+one(b)+begin[k+1:], api.ErrDecodeMagic)
				refused(t, s[:k]+one(b)+s[k+1:], api.ErrDecodeMagic)
			}
		}
	}
	refused(t, "z"+s, api.ErrDecodeMagic)
	refused(t, begin[1:]+s, api.ErrDecodeMagic)
	// A second head is a custom section (0) of 97 bytes.
	refused(t, begin+begin, api.ErrDecodeCut)
}

// Each byte where a section begins.
func TestSectionBytes(t *testing.T) {
	m, s, _ := whole()
	for b := 12; b < 256; b++ {
		for _, behind := range []string{"", "\x00", "\x01\x00", "\x80", "\x05", "\xff\xff\xff\xff\xff"} {
			refused(t, begin+one(b)+behind, api.ErrDecodeSection)
			refused(t, s+one(b)+behind, api.ErrDecodeSection)
			refused(t, begin+sec(3, "\x01\x00")+one(b)+behind, api.ErrDecodeSection)
		}
	}
	check(t, s+sec(0, "\x00"), m)
}

// Sections out of their row, and twice; custom sections do not count.
func TestOrder(t *testing.T) {
	all := parts()
	for i, p := range all {
		for _, q := range all[:i+1] {
			for _, between := range []string{"", sec(0, "\x00"), sec(0, "\x01n") + sec(0, "\x01n")} {
				front := begin + sec(p.id, p.content) + between
				refused(t, front+sec(q.id, q.content), api.ErrDecodeOrder)
				refused(t, front+one(q.id), api.ErrDecodeOrder)
				refused(t, front+one(q.id)+"\xff\xff\xff\xff\xff", api.ErrDecodeOrder)
				refused(t, front+sec(q.id, "\xff"), api.ErrDecodeOrder)
			}
		}
	}
	// Not greater than all ahead, though greater than the last one.
	refused(t, begin+sec(5, "\x00")+sec(4, "\x00")+sec(5, "\x00"), api.ErrDecodeOrder)
	refused(t, begin+sec(1, "\x00")+sec(7, "\x00")+sec(0, "\x00")+sec(6, "\x00"), api.ErrDecodeOrder)
	refused(t, begin+sec(11, "\x00")+sec(0, "\x00")+sec(1, "\x00"), api.ErrDecodeOrder)
}

// Sizes of sections that layer 12 refuses.
func TestSectionSizes(t *testing.T) {
	for id := range 12 {
		for _, size := range []string{"", "\x80", "\xff\xff\xff\xff", "\x80\x80\x80\x80\x10", "\xff\xff\xff\xff\x7f", "\x80\x80\x80\x80\x80\x00", "\x80\x80\x80\x80\x80"} {
			refused(t, begin+one(id)+size, api.ErrDecodeCut)
			refused(t, begin+sec(0, "\x00")+one(id)+size, api.ErrDecodeCut)
		}
		refused(t, begin+one(id)+"\x80\x80\x80\x80\x10\x00\x00", api.ErrDecodeCut)
		refused(t, begin+one(id)+"\x80\x80\x80\x80\x80\x00\x00\x00", api.ErrDecodeCut)
		refused(t, begin+one(id)+"\x01", api.ErrDecodeCut)
		refused(t, begin+one(id)+"\x03\x00\x00", api.ErrDecodeCut)
		refused(t, begin+one(id)+"\x00", api.ErrDecodeForm)
	}
}

// A module cut at every place: behind a whole section it is one, if its functions have their codes.
func TestCutModules(t *testing.T) {
	m, s, ends := whole()
	check(t, s, m)
	for k := range len(s) {
		switch n := slices.Index(ends, k); {
		case k < 8:
			refused(t, s[:k], api.ErrDecodeMagic)
		case n < 0:
			refused(t, s[:k], api.ErrDecodeCut)
		case n >= 3 && n < 10:
			refused(t, s[:k], api.ErrDecodeCounts)
		default:
			want := api.Module{Start: -1}
			for _, p := range parts()[:n] {
				p.fill(&want)
			}
			check(t, s[:k], want)
		}
	}
}

// A section's content cut at every place, and with bytes left, its size being as it is.
func TestCutSections(t *testing.T) {
	for _, p := range parts() {
		for k := range len(p.content) {
			refusedSec(t, p.id, p.content[:k], api.ErrDecodeForm)
		}
		for _, more := range []string{"\x00", "\x0b", "\xff", "\x01\x00", sec(0, "\x00"), p.content} {
			refusedSec(t, p.id, p.content+more, api.ErrDecodeSize)
		}
		if p.id != 8 {
			refusedSec(t, p.id, "\x00\x00", api.ErrDecodeSize)
			refusedSec(t, p.id, "\x00"+p.content, api.ErrDecodeSize)
		}
	}
	refusedSec(t, 8, "\x00\x00", api.ErrDecodeSize)
	// What is read ends with the section, not with the text.
	m, s, ends := whole()
	check(t, s, m)
	for n, p := range parts() {
		front, rest := s[:ends[n]], s[ends[n+1]:]
		refused(t, front+one(p.id)+number(len(p.content)-1)+p.content+rest, api.ErrDecodeForm)
	}
}

// byteFrame is a place of one byte, and which bytes may stand there.
type byteFrame struct {
	what   string
	id     int
	front  string
	behind string
	may    string
}

const fourTypes = "\x7c\x7d\x7e\x7f"

func byteFrames() []byteFrame {
	return []byteFrame{
		{"a type's first byte", 1, "\x01", "\x00\x00", "\x60"},
		{"the second type's first byte", 1, "\x02\x60\x01\x7f\x00", "\x00\x00", "\x60"},
		{"a parameter", 1, "\x01\x60\x01", "\x00", fourTypes},
		{"a second parameter", 1, "\x01\x60\x02\x7f", "\x00", fourTypes},
		{"a result", 1, "\x01\x60\x00\x01", "", fourTypes},
		{"a second result", 1, "\x01\x60\x01\x7f\x02\x7f", "", fourTypes},
		{"an imported table's first byte", 2, "\x01\x01m\x01t\x01", "\x00\x00", "\x70"},
		{"an imported table's limits", 2, "\x01\x01m\x01t\x01\x70", "\x05", "\x00"},
		{"an imported table's limits with Most", 2, "\x01\x01m\x01t\x01\x70", "\x05\x06", "\x01"},
		{"an imported memory's limits", 2, "\x01\x01m\x01y\x02", "\x05", "\x00"},
		{"an imported memory's limits with Most", 2, "\x01\x01m\x01y\x02", "\x05\x06", "\x01"},
		{"an imported global's type", 2, "\x01\x01m\x01g\x03", "\x00", fourTypes},
		{"whether an imported global is mut", 2, "\x01\x01m\x01g\x03\x7f", "", "\x00\x01"},
		{"a table's first byte", 4, "\x01", "\x00\x00", "\x70"},
		{"the second table's first byte", 4, "\x02\x70\x00\x00", "\x00\x00", "\x70"},
		{"a table's limits", 4, "\x01\x70", "\x05", "\x00"},
		{"a table's limits with Most", 4, "\x01\x70", "\x05\x06", "\x01"},
		{"a memory's limits", 5, "\x01", "\x05", "\x00"},
		{"a memory's limits with Most", 5, "\x01", "\x05\x06", "\x01"},
		{"a global's type", 6, "\x01", "\x00\x0b", fourTypes},
		{"whether a global is mut", 6, "\x01\x7e", "\x0b", "\x00\x01"},
		{"an export's kind", 7, "\x01\x01a", "\x05", "\x00\x01\x02\x03"},
		{"a second export's kind", 7, "\x02\x01a\x00\x00\x01b", "\x05", "\x00\x01\x02\x03"},
		{"an element's table", 9, "\x01", "\x0b\x00", "\x00"},
		{"a second element's table", 9, "\x02\x00\x0b\x01\x05", "\x0b\x00", "\x00"},
		{"a local's type", 10, "\x01\x04\x01\x01", "\x0b", fourTypes},
		{"the type of no locals", 10, "\x01\x04\x01\x00", "\x0b", fourTypes},
		{"a second run's type", 10, "\x01\x06\x02\x01\x7f\x01", "\x0b", fourTypes},
		{"a data's memory", 11, "\x01", "\x0b\x00", "\x00"},
		{"a second data's memory", 11, "\x02\x00\x0b\x01z", "\x0b\x00", "\x00"},
	}
}

// Each byte at each such place: those that may be are taken, all others are ErrDecodeForm (where limits of the other form
// are begun, what is behind them is wrong).
func TestEveryByte(t *testing.T) {
	for _, f := range byteFrames() {
		for b := range 256 {
			content := f.front + one(b) + f.behind
			switch {
			case strings.Contains(f.may, one(b)) && f.id == 10:
				taken(t, begin+sec(3, "\x01\x00")+sec(10, content))
			case strings.Contains(f.may, one(b)):
				taken(t, begin+sec(f.id, content))
			case f.may == "\x00" && b == 1 && f.id <= 5:
				refusedSec(t, f.id, content, api.ErrDecodeForm)
			case f.may == "\x01" && b == 0:
				refusedSec(t, f.id, content, api.ErrDecodeSize)
			default:
				refusedSec(t, f.id, content, api.ErrDecodeForm)
			}
		}
	}
}

// taken asks that a text has a module, the one that the grammar says.
func taken(t *testing.T, s string) {
	t.Helper()
	if _, e := Module(s); e != api.OK {
		t.Errorf("P15.1: Module(%q): %d", s, e)
	}
	checkGrammar(t, s)
}

// An import's kind tells what is behind it.
func TestImportKinds(t *testing.T) {
	front := "\x01\x01m\x01n"
	for b := 4; b < 256; b++ {
		for _, behind := range []string{"", "\x00", "\x70\x00\x00", "\x00\x00", "\x7f\x00", "\x80"} {
			refusedSec(t, 2, front+one(b)+behind, api.ErrDecodeForm)
		}
	}
	for b, behind := range []string{"\x05", "\x70\x00\x05", "\x00\x05", "\x7f\x01"} {
		want := []api.Import{
			{Module: "m", Name: "n", Kind: 0, Type: 5},
			{Module: "m", Name: "n", Kind: 1, Limits: api.Limits{Least: 5, Most: -1}},
			{Module: "m", Name: "n", Kind: 2, Limits: api.Limits{Least: 5, Most: -1}},
			{Module: "m", Name: "n", Kind: 3, Type: 127, Mut: true},
		}[b : b+1]
		checkSec(t, 2, front+one(b)+behind, api.Module{Start: -1, Imports: want})
	}
	// A byte is no number: there are no longer forms of it.
	refusedSec(t, 2, front+"\x80\x00\x05", api.ErrDecodeForm)
	refusedSec(t, 2, front+"\x03\x7f\x81\x00", api.ErrDecodeForm)
	refusedSec(t, 4, "\x01\x70\x80\x00\x05", api.ErrDecodeForm)
	refusedSec(t, 5, "\x01\x81\x00\x05\x06", api.ErrDecodeForm)
	refusedSec(t, 7, "\x01\x01a\x80\x00\x05", api.ErrDecodeForm)
	refusedSec(t, 1, "\x01\xe0\x00\x00\x00", api.ErrDecodeForm)
	// What must be the number 0 may be longer.
	checkSec(t, 9, "\x01\x80\x80\x80\x80\x00\x0b\x00", api.Module{Start: -1, Elems: make([]api.Elem, 1)})
	checkSec(t, 11, "\x01\x80\x80\x00\x0b\x00", api.Module{Start: -1, Datas: make([]api.Data, 1)})
	for _, x := range []string{"\x01", "\x81\x00", "\x80\x01", "\x80\x80\x01", "\xff\xff\xff\xff\x0f", "\x80\x80\x80\x80\x80\x00"} {
		refusedSec(t, 9, "\x01"+x+"\x0b\x00", api.ErrDecodeForm)
		refusedSec(t, 11, "\x01"+x+"\x0b\x00", api.ErrDecodeForm)
	}
}

// Bytes of a data beyond the section's end, though not beyond the text's.
func TestDataBytes(t *testing.T) {
	for _, many := range []int{4, 5, 100, 65536, 1<<31 - 1, 1 << 31, 1<<32 - 1} {
		refusedSec(t, 11, "\x01\x00\x0b"+number(many)+"abc", api.ErrDecodeForm)
		refusedSec(t, 11, "\x02\x00\x0b\x00\x00\x0b"+number(many)+"abc", api.ErrDecodeForm)
		refused(t, begin+sec(11, "\x01\x00\x0b"+number(many)+"abc")+sec(0, "\x00"+strings.Repeat("z", 200)), api.ErrDecodeForm)
	}
	checkSec(t, 11, "\x01\x00\x0b\x03abc", api.Module{Start: -1, Datas: []api.Data{{Bytes: "abc"}}})
	refusedSec(t, 11, "\x01\x00\x0b\x02abc", api.ErrDecodeSize)
	refusedSec(t, 11, "\x02\x00\x0b\x02abc", api.ErrDecodeForm)
	refusedSec(t, 11, "\x01\x00\x0b", api.ErrDecodeForm)
	refusedSec(t, 11, "\x01\x00\x0b\x80", api.ErrDecodeForm)
	refusedSec(t, 11, "\x01\x00\x0b\x80\x80\x80\x80\x10", api.ErrDecodeForm)
	// More of them than any other list may have.
	long := strings.Repeat("\xff\x00", 3000)
	checkSec(t, 11, "\x01\x00\x0b"+number(6000)+long, api.Module{Start: -1, Datas: []api.Data{{Bytes: long}}})
}

// A code's size too small and too great: what it holds is read within the section, then its size is asked.
func TestCodeSizes(t *testing.T) {
	body := "\x01\x02\x7f\x41\x05\x1a\x0b"
	for _, size := range []int{0, 1, 2, 3, 4, 5, 6, 8, 9, 10, 127, 128, 65536, 1<<31 - 1, 1<<32 - 1} {
		refusedSec(t, 10, "\x01"+number(size)+body, api.ErrDecodeSize)
		refusedSec(t, 10, "\x02"+number(size)+body+code(body), api.ErrDecodeSize)
		refusedSec(t, 10, "\x02"+code(body)+number(size)+body, api.ErrDecodeSize)
		refused(t, begin+sec(3, "\x01\x00")+sec(10, "\x01"+number(size)+body), api.ErrDecodeSize)
	}
	want := api.Code{Locals: []int{127, 127}, Body: []api.Instr{{Op: 65, Bits: 5}, {Op: 26}}}
	for parts := 1; parts <= 5; parts++ {
		check(t, begin+sec(3, "\x01\x00")+sec(10, "\x01"+longer(7, parts)+body), api.Module{Start: -1, Funcs: []int{0}, Codes: []api.Code{want}})
	}
	// What the code lacks goes ahead of what its size is.
	refusedSec(t, 10, "\x01\x02\x00\x01", api.ErrDecodeForm)
	refusedSec(t, 10, "\x01\x01\x01\x01\x40\x0b", api.ErrDecodeForm)
	refusedSec(t, 10, "\x01\x01\x01\x81\x02\x7f\x0b", api.ErrDecodeLong)
	refusedSec(t, 10, "\x01\x01\x00"+strings.Repeat("\x02\x40", 33), api.ErrDecodeNest)
	refusedSec(t, 10, "\x01\x80\x80\x80\x80\x10\x00\x0b", api.ErrDecodeForm)
	refusedSec(t, 10, "\x01\x80", api.ErrDecodeForm)
	// A code that goes on into the next one by its size.
	refusedSec(t, 10, "\x02\x05\x00\x0b\x02\x00\x0b", api.ErrDecodeSize)
}

// Functions without codes, and codes without functions: told at the end.
func TestCounts(t *testing.T) {
	for n := range 5 {
		for k := range 5 {
			funcs, codes := sec(3, items(n, "\x00")), sec(10, items(k, "\x02\x00\x0b"))
			for _, behind := range []string{"", sec(0, "\x01n"), sec(11, "\x00")} {
				s := begin + funcs + codes + behind
				if n == k {
					check(t, s, api.Module{Start: -1, Funcs: make([]int, n), Codes: make([]api.Code, n)})
				} else {
					refused(t, s, api.ErrDecodeCounts)
				}
			}
			if n > 0 {
				refused(t, begin+funcs, api.ErrDecodeCounts)
				refused(t, begin+sec(10, items(n, "\x02\x00\x0b")), api.ErrDecodeCounts)
			}
		}
	}
	refused(t, begin+sec(3, items(256, "\x00"))+sec(10, items(255, "\x02\x00\x0b")), api.ErrDecodeCounts)
	refused(t, begin+sec(3, items(255, "\x00"))+sec(10, items(256, "\x02\x00\x0b")), api.ErrDecodeCounts)
	// Imported functions have no codes.
	check(t, begin+sec(2, "\x01\x01m\x01f\x00\x00"), api.Module{Start: -1, Imports: []api.Import{{Module: "m", Name: "f"}}})
}

// Of two errors the first that is met goes ahead.
func TestFirstError(t *testing.T) {
	long, deep := strings.Repeat("n", 65), strings.Repeat("\x02\x40", 33)
	for _, c := range []struct {
		what string
		s    string
		code api.Errno
	}{
		{"too long, no head", strings.Repeat("z", 65537), api.ErrDecodeLong},
		{"too long, all wrong", begin + strings.Repeat("\xff", 65536), api.ErrDecodeLong},
		{"no head, no section", begin[:7] + "\xff", api.ErrDecodeMagic},
		{"no section, no size", begin + "\x0c", api.ErrDecodeSection},
		{"no section, out of the row", begin + sec(11, "\x00") + "\x0c\x00", api.ErrDecodeSection},
		{"out of the row, cut", begin + sec(5, "\x00") + "\x05\x09", api.ErrDecodeOrder},
		{"out of the row, of wrong content", begin + sec(5, "\x00") + sec(4, "\xff"), api.ErrDecodeOrder},
		{"out of the row, functions without codes", begin + sec(3, "\x01\x00") + sec(3, "\x01\x00"), api.ErrDecodeOrder},
		{"cut, of wrong content", begin + "\x01\x05\x01\x61\x00\x00", api.ErrDecodeCut},
		{"cut, too many types", begin + "\x01\x03\x81\x02", api.ErrDecodeCut},
		{"wrong content, then no section", begin + sec(1, "\x01\x61") + "\x0c", api.ErrDecodeForm},
		{"wrong content, then out of the row", begin + sec(5, "\x01\x02") + sec(4, "\x00"), api.ErrDecodeForm},
		{"wrong content, then cut", begin + sec(1, "\x01\x61") + "\x02\x09", api.ErrDecodeForm},
		{"bytes left, then no section", begin + sec(1, "\x00\x00") + "\x0c", api.ErrDecodeSize},
		{"bytes left, then wrong content", begin + sec(1, "\x00\x00") + sec(2, "\xff"), api.ErrDecodeSize},
		{"no section, functions without codes", begin + sec(3, "\x01\x00") + "\x0c", api.ErrDecodeSection},
		{"wrong content, functions without codes", begin + sec(3, "\x01\x00") + sec(11, "\x01\x01"), api.ErrDecodeForm},
		{"bytes left, functions without codes", begin + sec(3, "\x01\x00\x00"), api.ErrDecodeSize},
		{"wrong custom name, functions without codes", begin + sec(3, "\x01\x00") + sec(0, "\x01\xff"), api.ErrDecodeForm},
		{"wrong type, bytes left", begin + sec(1, "\x01\x61\x00\x00\x00"), api.ErrDecodeForm},
		{"wrong type, then a list too long", begin + sec(1, "\x02\x61\x00\x00\x60\x81\x08"), api.ErrDecodeForm},
		{"a list too long, then a wrong type", begin + sec(1, "\x02\x60\x81\x08\x00\x61"), api.ErrDecodeLong},
		{"a list too long, of wrong items", begin + sec(1, "\x81\x02\x61"), api.ErrDecodeLong},
		{"too many parameters, of wrong types", begin + sec(1, "\x01\x60\x81\x08\x40"), api.ErrDecodeLong},
		{"wrong parameter, then too many results", begin + sec(1, "\x01\x60\x01\x40\x81\x08"), api.ErrDecodeForm},
		{"name too long, then no kind", begin + sec(2, "\x01\x01m\x41"+long+"\x04"), api.ErrDecodeLong},
		{"name wrong, then name too long", begin + sec(2, "\x01\x01\xff\x41"+long+"\x00\x00"), api.ErrDecodeForm},
		{"name too long, then name wrong", begin + sec(2, "\x01\x41"+long+"\x01\xff\x00\x00"), api.ErrDecodeLong},
		{"name too long, and no UTF-8", begin + sec(7, "\x01\x41"+strings.Repeat("\xff", 65)+"\x00\x00"), api.ErrDecodeLong},
		{"no kind, then too long", begin + sec(7, "\x02\x01a\x04\x00\x41"+long+"\x00\x00"), api.ErrDecodeForm},
		{"wrong mut, then too deep", begin + sec(6, "\x01\x7f\x02"+deep), api.ErrDecodeForm},
		{"wrong type, then wrong mut, too deep", begin + sec(6, "\x01\x40\x02"+deep), api.ErrDecodeForm},
		{"too deep, cut", begin + sec(6, "\x01\x7f\x00"+deep), api.ErrDecodeNest},
		{"no Op, then too deep", begin + sec(6, "\x01\x7f\x00\x06"+deep), api.ErrDecodeForm},
		{"not 0, then too deep", begin + sec(9, "\x01\x01"+deep), api.ErrDecodeForm},
		{"too deep, then too many functions", begin + sec(9, "\x01\x00"+deep+strings.Repeat("\x0b", 34)+"\x81\x08"), api.ErrDecodeNest},
		{"too many functions, cut", begin + sec(9, "\x01\x00\x0b\x81\x08\x80"), api.ErrDecodeLong},
		{"too many codes, cut", begin + sec(10, "\x81\x02\x01"), api.ErrDecodeLong},
		{"too many locals, of a wrong type", begin + sec(10, "\x01\x05\x01\x81\x02\x40\x0b"), api.ErrDecodeLong},
		{"too many locals, cut", begin + sec(10, "\x01\x05\x01\x81\x02"), api.ErrDecodeLong},
		{"a wrong type, then too many locals", begin + sec(10, "\x01\x08\x02\x01\x40\x80\x02\x7f\x0b"), api.ErrDecodeForm},
		{"too many locals, then too deep", begin + sec(10, "\x01\x05\x01\x81\x02\x7f"+deep), api.ErrDecodeLong},
		{"too deep, of a wrong size", begin + sec(10, "\x01\x05\x00"+deep), api.ErrDecodeNest},
		{"of a wrong size, then too many locals", begin + sec(10, "\x02\x05\x00\x0b\x05\x01\x81\x02\x7f\x0b"), api.ErrDecodeSize},
		{"of a wrong size, then wrong", begin + sec(10, "\x02\x05\x00\x0b\x80"), api.ErrDecodeSize},
		{"wrong, then of a wrong size", begin + sec(10, "\x02\x02\x00\x06\x05\x00\x0b"), api.ErrDecodeForm},
		{"a code's size, functions without codes", begin + sec(3, "\x02\x00\x00") + sec(10, "\x01\x03\x00\x0b"), api.ErrDecodeSize},
		{"not 0, bytes beyond the end", begin + sec(11, "\x01\x01\x0b\x09"), api.ErrDecodeForm},
		{"too deep, bytes beyond the end", begin + sec(11, "\x01\x00"+deep+"\x09"), api.ErrDecodeNest},
	} {
		if m, e := Module(c.s); e != c.code || !same(m, api.Module{}) {
			t.Errorf("P15.1: %s: %d; want %d", c.what, e, c.code)
		}
	}
}

// Modules with one byte turned, left out or put in, at every place, and cut within their sections: just what the grammar
// says of them.
func TestTurned(t *testing.T) {
	_, s, _ := whole()
	turned := func(s string, k int, b int) {
		checkGrammar(t, s[:k]+one(b)+s[k+1:])
		checkGrammar(t, s[:k]+one(b)+s[k:])
	}
	for k := range len(s) {
		checkGrammar(t, s[:k]+s[k+1:])
		for b := range 256 {
			turned(s, k, b)
		}
	}
	r := numbers(11)
	for range 400 {
		w := writer{choose: &r}
		s := w.module(r.module())
		checkGrammar(t, s)
		for range 60 {
			turned(s, r.below(len(s)), []int{r.below(256), r.below(16), 0x7c + r.below(4), 0x60 + 16*r.below(2)}[r.below(4)])
		}
	}
}

// Sections of any bytes, with their sizes as they are: the faults are all within them.
func TestAnyContent(t *testing.T) {
	r := numbers(13)
	all := parts()
	for range 60000 {
		p := all[r.below(len(all))]
		content := p.content
		for range 1 + r.below(3) {
			k := r.below(len(content) + 1)
			content = content[:k] + one([]int{r.below(256), r.below(4), 0x0b, 0x80}[r.below(4)]) + content[min(len(content), k+r.below(3)):]
		}
		s := begin + sec(p.id, content)
		if p.id == 10 {
			s = begin + sec(3, "\x02\x00\x00") + sec(10, content)
		}
		checkGrammar(t, s)
	}
}
