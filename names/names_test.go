package names

import (
	"math"
	"strings"
	"sync"
	"testing"
	"unicode/utf8"
	"unsafe"

	"pelorus/api"
)

// checkGet asks one call of Get.
func checkGet(t *testing.T, s string, at int, want string, behind int, code api.Errno) {
	t.Helper()
	if name, place, e := Get(s, at); name != want || place != behind || e != code {
		t.Errorf("P13.1: Get(%q, %d): %q, %d, %d; want %q, %d, %d", s, at, name, place, e, want, behind, code)
	}
}

// refused asks Get for an error, with every other result its zero value.
func refused(t *testing.T, s string, at int, code api.Errno) {
	t.Helper()
	checkGet(t, s, at, "", 0, code)
}

// lengthOf gives a length below 128 x 128 in so many parts, without a thought of how few would do.
func lengthOf(n, parts int) string {
	out := []byte{byte(n & 127)}
	for k := 1; k < parts; k++ {
		out[k-1] |= 128
		out = append(out, byte(n>>(7*k)&127))
	}
	return string(out)
}

// short gives a length in as few parts as hold it.
func short(n int) string {
	if n < 128 {
		return lengthOf(n, 1)
	}
	return lengthOf(n, 2)
}

// checkName asks May, Put and Get of one text, which is a name if the code is OK.
func checkName(t *testing.T, s string, code api.Errno) {
	t.Helper()
	if got := May(s); got != (code == api.OK) {
		t.Errorf("P13.1: May(%q): %v", s, got)
	}
	put, name := "", ""
	if code == api.OK {
		put, name = short(len(s))+s, s
	}
	if got, e := Put(s); got != put || e != code {
		t.Errorf("P13.1: Put(%q): %q, %d; want %q, %d", s, got, e, put, code)
	}
	for _, around := range [][2]string{{"", ""}, {"z", ""}, {"", "z"}, {"\x80\xff", "\x80\xbf\xbf"}, {"\x00\x05name", "\x00"}} {
		at, behind := len(around[0]), 0
		if code == api.OK {
			behind = at + len(put)
		}
		checkGet(t, around[0]+short(len(s))+s+around[1], at, name, behind, code)
	}
}

func TestNames(t *testing.T) {
	for _, s := range []string{
		"",
		"a",
		"\x00",
		"\x7f",
		"memory",
		"a\x00b",
		"\u00e9",
		"\u65e5",
		"\U0001f600",
		"a\u00e9\u65e5\U0001f600",
		"\U0001f600\u65e5\u00e9a",
		"\u65e5a\U0001f600\u00e9\u00e9\U0001f600a\u65e5",
		"\ufeff", "\ufffd", "\ufffe", "\uffff",
	} {
		checkName(t, s, api.OK)
	}
}

// The least and the greatest sign of each length, and those beside the halves of pairs, by their bytes.
func TestBordersOfSigns(t *testing.T) {
	for _, c := range []struct {
		sign  rune
		bytes string
	}{
		{0x0, "\x00"},
		{0x7f, "\x7f"},
		{0x80, "\xc2\x80"},
		{0x7ff, "\xdf\xbf"},
		{0x800, "\xe0\xa0\x80"},
		{0xfff, "\xe0\xbf\xbf"},
		{0x1000, "\xe1\x80\x80"},
		{0xcfff, "\xec\xbf\xbf"},
		{0xd000, "\xed\x80\x80"},
		{0xd7ff, "\xed\x9f\xbf"},
		{0xe000, "\xee\x80\x80"},
		{0xffff, "\xef\xbf\xbf"},
		{0x10000, "\xf0\x90\x80\x80"},
		{0x3ffff, "\xf0\xbf\xbf\xbf"},
		{0x40000, "\xf1\x80\x80\x80"},
		{0xfffff, "\xf3\xbf\xbf\xbf"},
		{0x100000, "\xf4\x80\x80\x80"},
		{0x10ffff, "\xf4\x8f\xbf\xbf"},
	} {
		if string(c.sign) != c.bytes {
			t.Fatalf("U+%04X is %q, not %q", c.sign, string(c.sign), c.bytes)
		}
		checkName(t, c.bytes, api.OK)
		checkName(t, "a"+c.bytes+c.bytes+"z", api.OK)
	}
}

// wrongForms are texts that are no UTF-8, by what is wrong.
func wrongForms() map[string][]string {
	return map[string][]string{
		"longer than needed": {
			"\xc0\x80", "\xc0\xaf", "\xc1\x81", "\xc1\xbf",
			"\xe0\x80\x80", "\xe0\x80\xaf", "\xe0\x81\xbf", "\xe0\x9f\xbf",
			"\xf0\x80\x80\x80", "\xf0\x80\x80\xaf", "\xf0\x82\x82\xac", "\xf0\x8f\xbf\xbf",
		},
		"halves of pairs": {
			"\xed\xa0\x80", "\xed\xaf\xbf", "\xed\xb0\x80", "\xed\xbf\xbf", "\xed\xa0\xbd\xed\xb8\x80",
		},
		"beyond U+10FFFF": {
			"\xf4\x90\x80\x80", "\xf4\xbf\xbf\xbf", "\xf5\x80\x80\x80", "\xf7\xbf\xbf\xbf",
			"\xf8\x88\x80\x80\x80", "\xfb\xbf\xbf\xbf\xbf", "\xfc\x84\x80\x80\x80\x80", "\xfd\xbf\xbf\xbf\xbf\xbf",
		},
		"only goes on": {
			"\x80", "\xbf", "\x80\x80", "\xa9", "\xc3\xa9\xa9", "\xe6\x97\xa5\xa5", "\xf0\x9f\x98\x80\x80",
		},
		"cut": {
			"\xc3", "\xdf", "\xe6", "\xe6\x97", "\xe0\xa0", "\xed\x9f", "\xf0", "\xf0\x9f", "\xf0\x9f\x98", "\xf4\x8f\xbf",
		},
		"cut by the next": {
			"\xc3a", "\xc3\xc3\xa9", "\xe6a\xa5", "\xe6\x97a", "\xe6\x97\xe6\x97\xa5", "\xf0a\x98\x80", "\xf0\x9fa\x80",
			"\xf0\x9f\x98a", "\xc3\x7f", "\xc3\xc0", "\xe6\x97\x7f", "\xe6\x97\xc0", "\xf0\x9f\x7f\x80", "\xf0\x9f\xc0\x80",
		},
		"never": {
			"\xc0", "\xc1", "\xf5", "\xf6", "\xf7", "\xf8", "\xf9", "\xfa", "\xfb", "\xfc", "\xfd", "\xfe", "\xff",
			"\xfe\xff", "\xff\xfe", "\xff\xbf",
		},
	}
}

// What is wrong is told wherever it stands in the name: at its beginning, behind each kind of sign, and at its end.
func TestNoUTF8(t *testing.T) {
	for _, texts := range wrongForms() {
		for _, s := range texts {
			for _, ahead := range []string{"", "a", "\u00e9", "\u65e5", "\U0001f600", strings.Repeat("n", 40)} {
				checkName(t, ahead+s, api.ErrNameForm)
				checkName(t, ahead+s+"a", api.ErrNameForm)
				checkName(t, ahead+s+"\u65e5", api.ErrNameForm)
			}
		}
	}
}

// A sign that the name cuts is none, though the bytes behind the name would go on with it.
func TestSignBeyondTheName(t *testing.T) {
	for _, sign := range []string{"\u00e9", "\u65e5", "\U0001f600"} {
		for cut := 1; cut < len(sign); cut++ {
			refused(t, short(cut)+sign, 0, api.ErrNameForm)
			refused(t, "z"+short(1+cut)+"a"+sign+"z", 1, api.ErrNameForm)
		}
		checkGet(t, short(len(sign))+sign+sign, 0, sign, 1+len(sign), api.OK)
	}
}

// Names of each length up to MaxName and beyond, of signs of each length.
func TestLengths(t *testing.T) {
	for _, sign := range []string{"n", "\u00e9", "\u65e5", "\U0001f600"} {
		for n := 0; n <= 200; n += len(sign) {
			code := api.OK
			if n > 64 {
				code = api.ErrNameLong
			}
			checkName(t, strings.Repeat(sign, n/len(sign)), code)
		}
	}
	if api.MaxName != 64 {
		t.Errorf("MaxName: %d", api.MaxName)
	}
	checkName(t, "nn"+strings.Repeat("\u65e5", 20)+"\u00e9", api.OK)
	checkName(t, "nn"+strings.Repeat("\u65e5", 21), api.ErrNameLong)
}

// More than MaxName bytes go ahead of no UTF-8; at MaxName bytes it is told that they are none.
func TestLongAheadOfForm(t *testing.T) {
	for _, texts := range wrongForms() {
		for _, s := range texts {
			filled := strings.Repeat("n", 64-len(s))
			checkName(t, filled+s, api.ErrNameForm)
			checkName(t, s+filled, api.ErrNameForm)
			checkName(t, filled+"n"+s, api.ErrNameLong)
			checkName(t, s+filled+"n", api.ErrNameLong)
			checkName(t, strings.Repeat(s, 65), api.ErrNameLong)
		}
	}
	checkName(t, strings.Repeat("n", 64)+"\xff", api.ErrNameLong)
	checkName(t, strings.Repeat("n", 63)+"\u00e9", api.ErrNameLong)
	checkName(t, strings.Repeat("n", 63)+"\xc3", api.ErrNameForm)
}

// A name that goes beyond the end is ErrNameForm, ahead of more than MaxName bytes.
func TestBeyondTheEnd(t *testing.T) {
	for n := 1; n <= 200; n++ {
		for have := range n {
			refused(t, short(n)+strings.Repeat("n", have), 0, api.ErrNameForm)
		}
		refused(t, "zzz"+short(n)+strings.Repeat("\xff", n-1), 3, api.ErrNameForm)
	}
	for _, length := range []string{
		"\xff\xff\x03", "\xff\xff\xff\x7f", "\xff\xff\xff\xff\x07", "\x80\x80\x80\x80\x08", "\xff\xff\xff\xff\x0f",
	} {
		refused(t, length, 0, api.ErrNameForm)
		refused(t, "ab"+length+strings.Repeat("n", 100), 2, api.ErrNameForm)
	}
}

// A length in a longer form is fine, up to five parts; what layer 12's Get refuses is ErrNameForm.
func TestFormsOfTheLength(t *testing.T) {
	for _, s := range []string{"", "a", "\u65e5\U0001f600", strings.Repeat("n", 64)} {
		for parts := 1; parts <= 5; parts++ {
			checkGet(t, "!"+lengthOf(len(s), parts)+s, 1, s, 1+parts+len(s), api.OK)
			checkGet(t, lengthOf(len(s), parts)+s+"?", 0, s, parts+len(s), api.OK)
		}
		refused(t, lengthOf(len(s), 6)+s, 0, api.ErrNameForm)
	}
	for parts := 2; parts <= 5; parts++ {
		refused(t, lengthOf(65, parts)+strings.Repeat("n", 65), 0, api.ErrNameLong)
		refused(t, lengthOf(65, parts)+strings.Repeat("n", 64), 0, api.ErrNameForm)
	}
	for parts := range 5 {
		refused(t, strings.Repeat("\x80", parts), 0, api.ErrNameForm)
		refused(t, "ok"+strings.Repeat("\x81", parts), 2, api.ErrNameForm)
	}
	for _, length := range []string{
		"\x80\x80\x80\x80\x10", "\x81\x80\x80\x80\x70", "\x80\x80\x80\x80\x80", "\x81\x80\x80\x80\x80\x00",
	} {
		refused(t, length+strings.Repeat("n", 100), 0, api.ErrNameForm)
	}
}

// A name may end with the text; 'at' the length of it none begins; beyond it and below 0 there is no place.
func TestPlaces(t *testing.T) {
	text := "\x01a\x00\x02\u00e9"
	checkGet(t, text, 0, "a", 2, api.OK)
	checkGet(t, text, 2, "", 3, api.OK)
	checkGet(t, text, 3, "\u00e9", len(text), api.OK)
	checkGet(t, "\x00", 0, "", 1, api.OK)
	for _, s := range []string{"", "\x00", "\x01a", "\x80", text, strings.Repeat("\x00", 100)} {
		refused(t, s, len(s), api.ErrNameForm)
		for _, beyond := range []int{1, 2, 10, 1 << 32, math.MaxInt - len(s)} {
			refused(t, s, len(s)+beyond, api.ErrNameForm)
		}
		for _, below := range []int{-1, -2, -5, -1 << 32, math.MinInt, math.MinInt + 1} {
			refused(t, s, below, api.ErrNameForm)
		}
	}
}

// mayBe tells whether bytes are UTF-8: just what the signs of Unicode are written as.
func mayBe(s string) bool {
	for s != "" {
		sign, n := utf8.DecodeRuneInString(s)
		if string(sign) != s[:n] || sign >= 0xd800 && sign <= 0xdfff || sign > 0x10ffff {
			return false
		}
		s = s[n:]
	}
	return true
}

// same holds May against what Unicode's signs are written as.
func same(t *testing.T, s string) {
	t.Helper()
	if got := May(s); got != mayBe(s) {
		t.Fatalf("P13.1: May(%q): %v", s, got)
	}
}

// Each sign of Unicode is a name, written and read back.
func TestAllSigns(t *testing.T) {
	for sign := rune(0); sign <= 0x10ffff; sign++ {
		if sign >= 0xd800 && sign <= 0xdfff {
			continue
		}
		s := string(sign)
		put, e := Put(s)
		if !May(s) || put != short(len(s))+s || e != api.OK {
			t.Fatalf("P13.1: U+%04X: %v, %q, %d", sign, May(s), put, e)
		}
		if name, behind, e := Get(put, 0); name != s || behind != len(put) || e != api.OK {
			t.Fatalf("P13.1: U+%04X: %q, %d, %d", sign, name, behind, e)
		}
	}
}

// All texts of at most two bytes, and those of three and of four that stand at the borders of signs.
func TestAllShortTexts(t *testing.T) {
	near := []byte{0x00, 0x41, 0x7f, 0x80, 0x81, 0x8f, 0x90, 0x9f, 0xa0, 0xbe, 0xbf, 0xc0, 0xc2, 0xe0, 0xed, 0xf0, 0xf4, 0xff}
	for a := range 256 {
		same(t, string([]byte{byte(a)}))
		for b := range 256 {
			same(t, string([]byte{byte(a), byte(b)}))
			for _, c := range near {
				same(t, string([]byte{byte(a), byte(b), c}))
				if a < 0xe0 && a%16 != 0 {
					continue // of such, three bytes tell as much as four
				}
				for _, d := range near {
					same(t, string([]byte{byte(a), byte(b), c, d}))
				}
			}
		}
	}
}

// row is a row of numbers.
type row uint64

func (r *row) below(n int) int {
	*r = *r*6364136223846793005 + 1442695040888963407
	return int(uint64(*r) >> 32 % uint64(n))
}

// text gives a text of signs of all lengths, now and then with a byte changed or lost.
func (r *row) text() string {
	var out []byte
	for range r.below(40) {
		out = utf8.AppendRune(out, rune(r.below(0x110000)>>r.below(20)))
	}
	if len(out) > 0 && r.below(2) > 0 {
		k := r.below(len(out))
		if r.below(2) > 0 {
			return string(out[:k]) + string(out[k+1:])
		}
		out[k] = byte(r.below(256))
	}
	return string(out)
}

// Texts of any length, most of them near to UTF-8.
func TestBesideTheSigns(t *testing.T) {
	r := row(13)
	counts := map[api.Errno]int{}
	for range 20000 {
		s := r.text()
		code := api.OK
		if len(s) > 64 {
			code = api.ErrNameLong
		} else if !mayBe(s) {
			code = api.ErrNameForm
		}
		counts[code]++
		checkName(t, s, code)
		if t.Failed() {
			return
		}
	}
	if counts[api.OK] < 1000 || counts[api.ErrNameLong] < 1000 || counts[api.ErrNameForm] < 1000 {
		t.Errorf("too few of a kind: %v", counts)
	}
}

// Names one behind the other are read one by one, up to the text's end.
func TestRow(t *testing.T) {
	all := []string{"env", "", "\u00e9", "\u65e5\U0001f600", strings.Repeat("n", 64), "last"}
	text := ""
	for _, s := range all {
		put, e := Put(s)
		if e != api.OK {
			t.Fatalf("P13.1: Put(%q): %d", s, e)
		}
		text += put
	}
	at := 0
	for _, s := range all {
		checkGet(t, text, at, s, at+1+len(s), api.OK)
		at += 1 + len(s)
	}
	refused(t, text, at, api.ErrNameForm)
}

// within tells whether a text stands in the memory of another one.
func within(piece, whole string) bool {
	p, w := uintptr(unsafe.Pointer(unsafe.StringData(piece))), uintptr(unsafe.Pointer(unsafe.StringData(whole)))
	return p >= w && p < w+uintptr(len(whole))
}

// What is answered shares no memory with what was handed in.
func TestNewMemory(t *testing.T) {
	s := "\x06memory" + strings.Repeat("z", 100)
	if name, _, _ := Get(s, 0); name != "memory" || within(name, s) {
		t.Errorf("R4: Get: %q", name)
	}
	if put, _ := Put(s[1:7]); put != s[:7] || within(put, s) {
		t.Errorf("R4: Put: %q", put)
	}
}

// A text of great size is not walked over: its length is enough.
func TestGreatText(t *testing.T) {
	s := "\xff\xff\xff\x07" + strings.Repeat("n", 1<<24)
	for range 1 << 16 {
		if _, e := Put(s); May(s) || e != api.ErrNameLong {
			t.Fatalf("P13.1: Put: %d", e)
		}
		if _, _, e := Get(s, 0); e != api.ErrNameLong {
			t.Fatalf("P13.1: Get: %d", e)
		}
	}
}

// Plain functions, from several goroutines at one time.
func TestAtOneTime(t *testing.T) {
	var all sync.WaitGroup
	for n := range 8 {
		all.Go(func() {
			for k := range 500 {
				checkName(t, string(rune(0x20+n<<12+k)), api.OK)
				checkName(t, string(rune(0x20+n<<12+k))+"\xff", api.ErrNameForm)
			}
		})
	}
	all.Wait()
}
