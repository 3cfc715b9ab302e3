package leb

import (
	"math"
	"math/big"
	"strings"
	"sync"
	"testing"

	"pelorus/api"
)

// reader is Get or GetSigned.
type reader func(s string, at int, bits int) (int, int, api.Errno)

// readers are both, by their names.
func readers() map[string]reader {
	return map[string]reader{"Get": Get, "GetSigned": GetSigned}
}

// checkRead asks one call of a reader.
func checkRead(t *testing.T, name, s string, at, bits, want, behind int, code api.Errno) {
	t.Helper()
	if x, place, e := readers()[name](s, at, bits); x != want || place != behind || e != code {
		t.Errorf("P12.2: %s(%q, %d, %d): %d, %d, %d; want %d, %d, %d", name, s, at, bits, x, place, e, want, behind, code)
	}
}

// refused asks for an error, with every other result its zero value.
func refused(t *testing.T, name, s string, at, bits int, code api.Errno) {
	t.Helper()
	checkRead(t, name, s, at, bits, 0, 0, code)
}

// mostParts gives how many parts a number may have, as the chapter writes it.
func mostParts(bits int) int {
	if bits == 32 {
		return 5
	}
	return 10
}

// row is a row of numbers.
type row uint64

func (r *row) below(n int) int {
	*r = *r*6364136223846793005 + 1442695040888963407
	return int(uint64(*r) >> 32 % uint64(n))
}

// wide gives a number of any length, of either sign.
func (r *row) wide() int {
	x := int(uint64(r.below(1<<31))<<33 ^ uint64(r.below(1<<31))<<2 ^ uint64(r.below(4)))
	return x >> r.below(64)
}

func TestPut(t *testing.T) {
	for _, c := range []struct {
		x    int
		want string
	}{
		{0, "\x00"},
		{1, "\x01"},
		{63, "\x3f"},
		{64, "\x40"},
		{127, "\x7f"},
		{128, "\x80\x01"},
		{129, "\x81\x01"},
		{255, "\xff\x01"},
		{256, "\x80\x02"},
		{16383, "\xff\x7f"},
		{16384, "\x80\x80\x01"},
		{624485, "\xe5\x8e\x26"},
		{1<<31 - 1, "\xff\xff\xff\xff\x07"},
		{1 << 31, "\x80\x80\x80\x80\x08"},
		{1<<32 - 1, "\xff\xff\xff\xff\x0f"},
		{1 << 32, "\x80\x80\x80\x80\x10"},
		{1<<56 - 1, "\xff\xff\xff\xff\xff\xff\xff\x7f"},
		{1 << 56, "\x80\x80\x80\x80\x80\x80\x80\x80\x01"},
		{math.MaxInt, "\xff\xff\xff\xff\xff\xff\xff\xff\x7f"},
		{math.MinInt, "\x80\x80\x80\x80\x80\x80\x80\x80\x80\x01"},
		{math.MinInt + 5, "\x85\x80\x80\x80\x80\x80\x80\x80\x80\x01"},
		{-1, "\xff\xff\xff\xff\xff\xff\xff\xff\xff\x01"},
		{-2, "\xfe\xff\xff\xff\xff\xff\xff\xff\xff\x01"},
		{-128, "\x80\xff\xff\xff\xff\xff\xff\xff\xff\x01"},
	} {
		if got := Put(c.x); got != c.want {
			t.Errorf("P12.1: Put(%d): %q; want %q", c.x, got, c.want)
		}
		checkRead(t, "Get", c.want, 0, 64, c.x, len(c.want), api.OK)
	}
}

func TestPutSigned(t *testing.T) {
	for _, c := range []struct {
		x    int
		want string
	}{
		{0, "\x00"},
		{1, "\x01"},
		{-1, "\x7f"},
		{-2, "\x7e"},
		{62, "\x3e"},
		{63, "\x3f"},
		{64, "\xc0\x00"},
		{-63, "\x41"},
		{-64, "\x40"},
		{-65, "\xbf\x7f"},
		{127, "\xff\x00"},
		{128, "\x80\x01"},
		{-127, "\x81\x7f"},
		{-128, "\x80\x7f"},
		{-129, "\xff\x7e"},
		{8191, "\xff\x3f"},
		{8192, "\x80\xc0\x00"},
		{-8192, "\x80\x40"},
		{-8193, "\xff\xbf\x7f"},
		{-123456, "\xc0\xbb\x78"},
		{1<<31 - 1, "\xff\xff\xff\xff\x07"},
		{1 << 31, "\x80\x80\x80\x80\x08"},
		{-1 << 31, "\x80\x80\x80\x80\x78"},
		{-1<<31 - 1, "\xff\xff\xff\xff\x77"},
		{1<<62 - 1, "\xff\xff\xff\xff\xff\xff\xff\xff\x3f"},
		{1 << 62, "\x80\x80\x80\x80\x80\x80\x80\x80\xc0\x00"},
		{-1 << 62, "\x80\x80\x80\x80\x80\x80\x80\x80\x40"},
		{-1<<62 - 1, "\xff\xff\xff\xff\xff\xff\xff\xff\xbf\x7f"},
		{math.MaxInt, "\xff\xff\xff\xff\xff\xff\xff\xff\xff\x00"},
		{math.MinInt, "\x80\x80\x80\x80\x80\x80\x80\x80\x80\x7f"},
	} {
		if got := PutSigned(c.x); got != c.want {
			t.Errorf("P12.1: PutSigned(%d): %q; want %q", c.x, got, c.want)
		}
		checkRead(t, "GetSigned", c.want, 0, 64, c.x, len(c.want), api.OK)
	}
}

// Each border at which one part more is wanted: one below it, at it and beyond, of both signs.
func TestBordersOfParts(t *testing.T) {
	for k := 1; k <= 9; k++ {
		border := int(uint64(1) << (7 * k)) // 2^63 is negative as an int, and without sign all the same
		if a, b := len(Put(border-1)), len(Put(border)); a != k || b != k+1 {
			t.Errorf("P12.1: Put at 2^%d: %d and %d parts; want %d and %d", 7*k, a, b, k, k+1)
		}
		half := 1 << (7*k - 1)
		if a, b := len(PutSigned(half-1)), len(PutSigned(half)); a != k || b != k+1 {
			t.Errorf("P12.1: PutSigned at 2^%d: %d and %d parts; want %d and %d", 7*k-1, a, b, k, k+1)
		}
		if a, b := len(PutSigned(-half)), len(PutSigned(-half-1)); a != k || b != k+1 {
			t.Errorf("P12.1: PutSigned at -2^%d: %d and %d parts; want %d and %d", 7*k-1, a, b, k, k+1)
		}
	}
}

// sevens gives x in that many parts, without a thought of how few would do.
func sevens(x *big.Int, parts int) string {
	var out []byte
	for k := range parts {
		part := byte(new(big.Int).And(new(big.Int).Rsh(x, uint(7*k)), big.NewInt(127)).Int64())
		if k < parts-1 {
			part += 128
		}
		out = append(out, part)
	}
	return string(out)
}

// unsigned gives x as 64 bits without sign.
func unsigned(x int) *big.Int { return new(big.Int).SetUint64(uint64(x)) }

// fewest gives how many parts hold x: all its bits, or, with sign, all below its sign and one more.
func fewest(x int, signed bool) int {
	need := unsigned(x).BitLen()
	if signed && x >= 0 {
		need = big.NewInt(int64(x)).BitLen() + 1
	} else if signed {
		need = big.NewInt(int64(^x)).BitLen() + 1
	}
	return max(1, (need+6)/7)
}

// What is written has the parts of exact numbers, as few as hold it.
func TestPutBesideExactNumbers(t *testing.T) {
	r := row(12)
	for range 20000 {
		x := r.wide()
		if got, want := Put(x), sevens(unsigned(x), fewest(x, false)); got != want {
			t.Fatalf("P12.1: Put(%d): %q; want %q", x, got, want)
		}
		if got, want := PutSigned(x), sevens(big.NewInt(int64(x)), fewest(x, true)); got != want {
			t.Fatalf("P12.1: PutSigned(%d): %q; want %q", x, got, want)
		}
	}
}

// edges are numbers at all borders, and beside them.
func edges() []int {
	out := []int{0, math.MaxInt, math.MinInt}
	for k := range 63 {
		for d := -2; d <= 2; d++ {
			out = append(out, 1<<k+d, -1<<k+d)
		}
	}
	return out
}

// What is written is read as it was, at the text's beginning and behind other bytes, with and without bytes behind it.
func TestThereAndBack(t *testing.T) {
	r := row(5)
	all := edges()
	for range 3000 {
		all = append(all, r.wide())
	}
	for _, x := range all {
		for _, around := range [][2]string{{"", ""}, {"\x80", "\xff"}, {"\x00\xff\x7f", "\x00"}} {
			plain, signed := Put(x), PutSigned(x)
			at := len(around[0])
			checkRead(t, "Get", around[0]+plain+around[1], at, 64, x, at+len(plain), api.OK)
			checkRead(t, "GetSigned", around[0]+signed+around[1], at, 64, x, at+len(signed), api.OK)
			if x >= 0 && x < 1<<32 {
				checkRead(t, "Get", around[0]+plain+around[1], at, 32, x, at+len(plain), api.OK)
			} else {
				refused(t, "Get", around[0]+plain+around[1], at, 32, api.ErrLebForm)
			}
			if x >= -1<<31 && x < 1<<31 {
				checkRead(t, "GetSigned", around[0]+signed+around[1], at, 32, x, at+len(signed), api.OK)
			} else {
				refused(t, "GetSigned", around[0]+signed+around[1], at, 32, api.ErrLebForm)
			}
		}
	}
}

// Each number in each longer form, up to as many parts as there may be; one more is ErrLebForm.
func TestLongerForms(t *testing.T) {
	for _, x := range edges() {
		for _, bits := range []int{32, 64} {
			most := mostParts(bits)
			if bits == 64 || x >= 0 && x < 1<<32 {
				for parts := fewest(x, false); parts <= most; parts++ {
					checkRead(t, "Get", "!"+sevens(unsigned(x), parts)+"?", 1, bits, x, 1+parts, api.OK)
				}
				refused(t, "Get", sevens(unsigned(x), most+1), 0, bits, api.ErrLebForm)
			}
			if bits == 64 || x >= -1<<31 && x < 1<<31 {
				for parts := fewest(x, true); parts <= most; parts++ {
					checkRead(t, "GetSigned", "!"+sevens(big.NewInt(int64(x)), parts)+"?", 1, bits, x, 1+parts, api.OK)
				}
				refused(t, "GetSigned", sevens(big.NewInt(int64(x)), most+1), 0, bits, api.ErrLebForm)
			}
		}
	}
}

// All 256 bytes as the last part that there may be, behind parts of all 0, of all 1, and of both.
func TestLastPart(t *testing.T) {
	for _, bits := range []int{32, 64} {
		room := bits - 7*(mostParts(bits)-1) // 4 of 32 bits, 1 of 64
		for _, low := range []int{0, 1<<(bits-room) - 1, 0x2a5a5a5a5a5a5a5a & (1<<(bits-room) - 1)} {
			front := sevens(big.NewInt(int64(low)), mostParts(bits)-1)
			front = front[:len(front)-1] + string([]byte{front[len(front)-1] | 128})
			for last := range 256 {
				s := front + string([]byte{byte(last)})
				if last < 1<<room {
					checkRead(t, "Get", s, 0, bits, low|last<<(bits-room), len(s), api.OK)
				} else {
					refused(t, "Get", s, 0, bits, api.ErrLebForm)
				}
				half := 1 << (room - 1)
				switch {
				case last < half:
					checkRead(t, "GetSigned", s, 0, bits, low|last<<(bits-room), len(s), api.OK)
				case last >= 128-half && last < 128:
					checkRead(t, "GetSigned", s, 0, bits, low|(last-128)<<(bits-room), len(s), api.OK)
				default:
					refused(t, "GetSigned", s, 0, bits, api.ErrLebForm)
				}
			}
		}
	}
}

// A number that does not end is ErrLebCut, while no sixth (eleventh) part would begin; from then on it is ErrLebForm.
func TestCut(t *testing.T) {
	for name := range readers() {
		for _, bits := range []int{32, 64} {
			for _, part := range []string{"\x80", "\xff", "\xc0", "\xaa"} {
				for parts := range 14 {
					s, code := strings.Repeat(part, parts), api.ErrLebCut
					if parts >= mostParts(bits) {
						code = api.ErrLebForm
					}
					refused(t, name, s, 0, bits, code)
					refused(t, name, "\x00\x05"+s, 2, bits, code)
				}
			}
		}
	}
}

// 'at' at the length is a number that does not begin; beyond it and below 0 it is no place.
func TestPlaces(t *testing.T) {
	for name := range readers() {
		for _, bits := range []int{32, 64} {
			for _, s := range []string{"", "\x05", "\x80", "\x01\x02\x03", "\x80\x80\x80\x80\x80\x80\x80\x80\x80\x80\x80"} {
				refused(t, name, s, len(s), bits, api.ErrLebCut)
				for _, beyond := range []int{1, 2, 10, 1 << 32, math.MaxInt - len(s)} {
					refused(t, name, s, len(s)+beyond, bits, api.ErrLebForm)
				}
				for _, below := range []int{-1, -2, -5, -1 << 32, math.MinInt, math.MinInt + 1} {
					refused(t, name, s, below, bits, api.ErrLebForm)
				}
			}
			for at, x := range []int{1, 2, 3} {
				checkRead(t, name, "\x01\x02\x03", at, bits, x, at+1, api.OK)
			}
		}
	}
}

// Bits other than 32 and 64 are ErrLebForm, ahead of a cut and of whatever else.
func TestWrongBits(t *testing.T) {
	for name := range readers() {
		for _, bits := range []int{0, 1, 7, 8, 16, 31, 33, 35, 63, 65, 70, 128, -1, -32, -64, 1<<32 + 32, 1<<32 + 64, math.MinInt, math.MaxInt} {
			for _, s := range []string{"", "\x00", "\x05", "\x80", "\x80\x80\x80\x80\x80\x80\x80\x80\x80\x80\x80"} {
				for _, at := range []int{0, len(s), -1, len(s) + 1, math.MinInt, math.MaxInt} {
					refused(t, name, s, at, bits, api.ErrLebForm)
				}
			}
		}
	}
}

// grammar reads a number of so many bits by the specification's grammar; ok tells whether the bytes are one.
func grammar(s string, bits int, signed bool) (x *big.Int, parts int, ok bool) {
	if s == "" {
		return nil, 0, false
	}
	n := int64(s[0])
	if n >= 128 {
		if bits <= 7 {
			return nil, 0, false
		}
		m, parts, ok := grammar(s[1:], bits-7, signed)
		if !ok {
			return nil, 0, false
		}
		return m.Add(m.Lsh(m, 7), big.NewInt(n-128)), parts + 1, true
	}
	narrow := uint(min(bits, 20)) // a part is below 2^7: more bits tell nothing more
	switch {
	case !signed:
		return big.NewInt(n), 1, n < 1<<narrow
	case n < 64:
		return big.NewInt(n), 1, n < 1<<(narrow-1)
	}
	return big.NewInt(n - 128), 1, n >= 128-1<<(narrow-1)
}

// checkGrammar holds a reader against the grammar, at a place where one may be read.
func checkGrammar(t *testing.T, s string, at, bits int, signed bool) {
	t.Helper()
	name := "Get"
	if signed {
		name = "GetSigned"
	}
	if x, parts, ok := grammar(s[at:], bits, signed); ok {
		want := int(x.Int64())
		if !signed {
			want = int(x.Uint64())
		}
		checkRead(t, name, s, at, bits, want, at+parts, api.OK)
		return
	}
	ends := min(len(s)-at, mostParts(bits))
	code := api.ErrLebCut
	for k := range ends {
		if s[at+k] < 128 {
			code = api.ErrLebForm
		}
	}
	if ends == mostParts(bits) {
		code = api.ErrLebForm
	}
	refused(t, name, s, at, bits, code)
}

// All texts of at most two bytes, by the grammar.
func TestAllShortTexts(t *testing.T) {
	for a := range 256 {
		for b := range 256 {
			s := string([]byte{byte(a), byte(b)})
			for at := range 3 {
				checkGrammar(t, s, at, 32, a%2 == 0)
				checkGrammar(t, s, at, 64, a%2 == 1)
				checkGrammar(t, s, at, 32, a%2 == 1)
				checkGrammar(t, s, at, 64, a%2 == 0)
			}
		}
	}
}

// Texts of any bytes, most of which are not the last of a number, by the grammar.
func TestBesideTheGrammar(t *testing.T) {
	r := row(77)
	for range 20000 {
		s := make([]byte, r.below(14))
		for k := range s {
			s[k] = byte(r.below(256))
			if r.below(8) > 0 {
				s[k] |= 128
			} else if r.below(2) > 0 {
				s[k] = []byte{0, 1, 7, 8, 15, 16, 63, 64, 119, 120, 126, 127}[r.below(12)]
			}
		}
		for _, signed := range []bool{false, true} {
			for _, bits := range []int{32, 64} {
				checkGrammar(t, string(s), r.below(len(s)+1), bits, signed)
			}
		}
		if t.Failed() {
			return
		}
	}
}

// A number in a text of great size is read at once, wherever it stands: the walk is not over the rest.
func TestGreatText(t *testing.T) {
	s := strings.Repeat("\x80", 1<<24)
	for at := range 1 << 18 {
		if _, _, e := Get(s, at<<5, 64); e != api.ErrLebForm {
			t.Fatalf("P12.2: Get at %d: %d", at<<5, e)
		}
		if _, _, e := GetSigned(s, at<<5, 32); e != api.ErrLebForm {
			t.Fatalf("P12.2: GetSigned at %d: %d", at<<5, e)
		}
	}
	checkRead(t, "Get", s+"\x02", len(s)-1, 32, 256, len(s)+1, api.OK)
	checkRead(t, "GetSigned", s+"\x40", len(s)-1, 32, -1<<13, len(s)+1, api.OK)
}

// Plain functions, from several goroutines at one time.
func TestAtOneTime(t *testing.T) {
	var all sync.WaitGroup
	for n := range 8 {
		all.Go(func() {
			for k := range 2000 {
				x := (k - 1000) << (7 * n)
				plain, signed := Put(x), PutSigned(x)
				checkRead(t, "Get", plain, 0, 64, x, len(plain), api.OK)
				checkRead(t, "GetSigned", signed, 0, 64, x, len(signed), api.OK)
			}
		})
	}
	all.Wait()
}
