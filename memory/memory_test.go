package memory

import (
	"encoding/binary"
	"fmt"
	"math"
	"strings"
	"testing"

	"pelorus/api"
)

// last32 is the greatest number of 32 bits without sign, and what Grow answers where there is no growth.
const last32 = 1<<32 - 1

// page is how many bytes a page has.
const page = 65536

// made gives a memory of least pages and at most most of them, without a Most of its own.
func made(t *testing.T, least, most int) *Memory {
	t.Helper()
	return limited(t, least, -1, most)
}

// limited gives a memory by all three numbers.
func limited(t *testing.T, least, own, most int) *Memory {
	t.Helper()
	m, e := New(api.Limits{Least: least, Most: own}, most)
	if m == nil || e != api.OK {
		t.Fatalf("P8.1: New({%d, %d}, %d): %v, %d; want a memory, 0", least, own, most, m != nil, e)
	}
	return m
}

// put writes bytes that are known to fit.
func put(t *testing.T, m *Memory, at int, bytes string) {
	t.Helper()
	if e := m.Put(at, bytes); e != api.OK {
		t.Fatalf("P8.3: Put(%d, %d bytes): %d; want 0", at, len(bytes), e)
	}
}

// holds asks all of a memory's bytes, and tells the first that is wrong.
func holds(t *testing.T, what string, m *Memory, want string) {
	t.Helper()
	got := m.All()
	if len(got) != len(want) {
		t.Fatalf("%s: %d bytes; want %d", what, len(got), len(want))
	}
	if got == want {
		return
	}
	for i := range got {
		if got[i] != want[i] {
			t.Fatalf("%s: byte %d is %#x; want %#x", what, i, got[i], want[i])
		}
	}
}

// zeros gives that many pages of 0.
func zeros(pages int) string { return strings.Repeat("\x00", pages*page) }

// pattern gives bytes of which no 8 in a row are like those beside them.
func pattern(size int) string {
	r := row(7)
	out := make([]byte, size)
	for i := range out {
		out[i] = byte(r.below(256))
	}
	return string(out)
}

// row is a row of numbers.
type row uint64

func (r *row) below(n int) int {
	*r = *r*6364136223846793005 + 1442695040888963407
	return int(uint64(*r) >> 32 % uint64(n))
}

func (r *row) word() int { return r.below(1<<32)<<32 | r.below(1<<32) }

// loadSize gives how many bytes a load reads, by the document.
func loadSize(op int) int {
	return map[int]int{40: 4, 41: 8, 42: 4, 43: 8, 44: 1, 45: 1, 46: 2, 47: 2, 48: 1, 49: 1, 50: 2, 51: 2, 52: 4, 53: 4}[op]
}

// storeSize gives how many bytes a store writes, by the document.
func storeSize(op int) int {
	return map[int]int{54: 4, 55: 8, 56: 4, 57: 8, 58: 1, 59: 2, 60: 1, 61: 2, 62: 4}[op]
}

// loaded gives what a load makes of bytes, by the language's own types.
func loaded(op int, b []byte) int {
	b = append(append([]byte{}, b...), make([]byte, 8)...)
	half, word, long := binary.LittleEndian.Uint16(b), binary.LittleEndian.Uint32(b), binary.LittleEndian.Uint64(b)
	switch op {
	case 40, 42:
		return int(word)
	case 41, 43:
		return int(long)
	case 44:
		return int(uint32(int32(int8(b[0]))))
	case 45, 49:
		return int(b[0])
	case 46:
		return int(uint32(int32(int16(half))))
	case 47, 51:
		return int(half)
	case 48:
		return int(int8(b[0]))
	case 50:
		return int(int16(half))
	case 52:
		return int(int32(word))
	case 53:
		return int(word)
	}
	panic("no load")
}

// checkLoad asks one load.
func checkLoad(t *testing.T, m *Memory, op, at, offset, want int, code api.Errno) {
	t.Helper()
	if got, e := m.Load(op, at, offset); got != want || e != code {
		t.Errorf("P8.2: Load(%d, %d, %d): %#x, %d; want %#x, %d", op, at, offset, got, e, want, code)
	}
}

// checkStore asks one store.
func checkStore(t *testing.T, m *Memory, op, at, offset, bits int, code api.Errno) {
	t.Helper()
	if e := m.Store(op, at, offset, bits); e != code {
		t.Errorf("P8.2: Store(%d, %d, %d, %#x): %d; want %d", op, at, offset, bits, e, code)
	}
}

// checkGrow asks one growth, and the pages behind it.
func checkGrow(t *testing.T, m *Memory, pages, want, behind int) {
	t.Helper()
	if got := m.Grow(pages); got != want {
		t.Errorf("P8.3: Grow(%d): %d; want %d", pages, got, want)
	}
	if got := m.Pages(); got != behind {
		t.Errorf("P8.3: Pages behind Grow(%d): %d; want %d", pages, got, behind)
	}
	if got := len(m.All()); got != behind*page {
		t.Errorf("P8.3: All behind Grow(%d): %d bytes; want %d", pages, got, behind*page)
	}
}

func TestNewIsPagesOfZero(t *testing.T) {
	for most := 0; most <= 16; most++ {
		for least := 0; least <= most; least++ {
			for _, own := range []int{-1, least, least + 1, 16, 17, 65535, 65536} {
				if own != -1 && own < least {
					continue
				}
				m := limited(t, least, own, most)
				if got := m.Pages(); got != least {
					t.Errorf("P8.1: New({%d, %d}, %d): %d pages; want %d", least, own, most, got, least)
				}
			}
		}
	}
	for _, least := range []int{0, 1, 2, 16} {
		holds(t, fmt.Sprint("P8.1: a new memory of ", least), made(t, least, 16), zeros(least))
	}
}

func TestNewOfWrongLimits(t *testing.T) {
	for _, c := range []struct{ least, own, most int }{
		{-1, -1, 1}, {-1, 1, 1}, {math.MinInt, -1, 16}, {-1, -1, 0},
		{65537, -1, 16}, {65537, 65537, 16}, {math.MaxInt, -1, 16}, {1 << 32, -1, 16},
		{0, -2, 1}, {0, math.MinInt, 1}, {1, -2, 1},
		{1, 0, 1}, {16, 15, 16}, {2, 1, 16},
		{0, 65537, 1}, {1, 65537, 16}, {0, 1 << 32, 1}, {0, math.MaxInt, 16},
		{0, -1, -1}, {0, 0, -1}, {0, -1, math.MinInt},
		{0, -1, 17}, {16, -1, 17}, {17, -1, 17}, {0, 0, 17}, {0, -1, math.MaxInt}, {0, -1, 1 << 32},
		{1, -1, 0}, {2, -1, 1}, {16, -1, 15}, {17, -1, 16}, {65536, 65536, 16}, {65536, -1, 16}, {1, 65536, 0},
	} {
		if m, e := New(api.Limits{Least: c.least, Most: c.own}, c.most); m != nil || e != api.ErrMemoryForm {
			t.Errorf("P8.1: New({%d, %d}, %d): %v, %d; want nil, 800", c.least, c.own, c.most, m != nil, e)
		}
	}
}

// Of the first bytes each is its own, and no sign stands; of the second each one, each two and each four have a
// sign.
func TestLoadsOfKnownBytes(t *testing.T) {
	m := made(t, 1, 1)
	put(t, m, 100, "\x01\x23\x45\x67\x09\x1b\x2d\x3f")
	put(t, m, 200, "\x80\x91\xa2\xb3\xc4\xd5\xe6\xf7")
	for _, c := range []struct{ op, plain, signed int }{
		{40, 0x67452301, 0xb3a29180},
		{41, 0x3f2d1b0967452301, -0x08192a3b4c5d6e80},
		{42, 0x67452301, 0xb3a29180},
		{43, 0x3f2d1b0967452301, -0x08192a3b4c5d6e80},
		{44, 0x01, 0xffffff80},
		{45, 0x01, 0x80},
		{46, 0x2301, 0xffff9180},
		{47, 0x2301, 0x9180},
		{48, 0x01, -0x80},
		{49, 0x01, 0x80},
		{50, 0x2301, -0x6e80},
		{51, 0x2301, 0x9180},
		{52, 0x67452301, -0x4c5d6e80},
		{53, 0x67452301, 0xb3a29180},
	} {
		checkLoad(t, m, c.op, 100, 0, c.plain, api.OK)
		checkLoad(t, m, c.op, 0, 100, c.plain, api.OK)
		checkLoad(t, m, c.op, 150, 50, c.signed, api.OK)
	}
}

// The signs' edges: the greatest number without a sign and the least with one, and all bits.
func TestLoadsAtTheSigns(t *testing.T) {
	m := made(t, 1, 1)
	ends := []string{
		"\x7f\xff\xff\xff\xff\xff\xff\xff", "\x80\x00\x00\x00\x00\x00\x00\x00",
		"\xff\x7f\xff\xff\xff\xff\xff\xff", "\x00\x80\x00\x00\x00\x00\x00\x00",
		"\xff\xff\xff\x7f\xff\xff\xff\xff", "\x00\x00\x00\x80\x00\x00\x00\x00",
		"\xff\xff\xff\xff\xff\xff\xff\x7f", "\x00\x00\x00\x00\x00\x00\x00\x80",
		"\xff\xff\xff\xff\xff\xff\xff\xff", "\x00\x00\x00\x00\x00\x00\x00\x00",
		"\xfe\xff\xff\xff\xff\xff\xff\xff", "\x01\x00\xa0\x7f\x01\x00\x00\x00",
		"\x01\x00\x00\x00\x00\x00\xf4\x7f", "\x00\x00\xc0\xff\x00\x00\xf8\xff",
	}
	for _, end := range ends {
		put(t, m, 8, end)
		for op := 40; op <= 53; op++ {
			checkLoad(t, m, op, 3, 5, loaded(op, []byte(end)[:loadSize(op)]), api.OK)
		}
	}
	holds(t, "P8.2: behind loads", m, strings.Repeat("\x00", 8)+ends[len(ends)-1]+strings.Repeat("\x00", page-16))
}

func TestStoresOfKnownBits(t *testing.T) {
	before := pattern(page)
	for op := 54; op <= 62; op++ {
		for _, bits := range []int{
			0x3f2d1b0967452301, -0x08192a3b4c5d6e80, 0, -1, math.MinInt, math.MaxInt, 1 << 31, last32, 1 << 32, -1 << 31,
			0x7fa00001, 0x7ff4000000000001,
		} {
			m := made(t, 1, 1)
			put(t, m, 0, before)
			checkStore(t, m, op, 70, 30, bits, api.OK)
			var word [8]byte
			binary.LittleEndian.PutUint64(word[:], uint64(bits))
			size := storeSize(op)
			holds(t, fmt.Sprintf("P8.2: behind Store(%d, 70, 30, %#x)", op, bits), m, before[:100]+string(word[:size])+before[100+size:])
		}
	}
}

// Written out, without the help of anything that works it out.
func TestStoresWriteTheLowBytesLowestFirst(t *testing.T) {
	for _, c := range []struct {
		op   int
		want string
	}{
		{54, "\x08\x07\x06\x05"}, {55, "\x08\x07\x06\x05\x04\x03\x02\x01"},
		{56, "\x08\x07\x06\x05"}, {57, "\x08\x07\x06\x05\x04\x03\x02\x01"},
		{58, "\x08"}, {59, "\x08\x07"},
		{60, "\x08"}, {61, "\x08\x07"}, {62, "\x08\x07\x06\x05"},
	} {
		m := made(t, 1, 1)
		checkStore(t, m, c.op, 0, 0, 0x0102030405060708, api.OK)
		holds(t, fmt.Sprintf("P8.2: behind Store(%d)", c.op), m, c.want+strings.Repeat("\x00", page-len(c.want)))
	}
}

// What was stored is loaded: of numbers and floats, of those that are no number too.
func TestThereAndBack(t *testing.T) {
	m := made(t, 2, 2)
	for _, c := range []struct{ store, load, mask int }{
		{54, 40, last32}, {55, 41, -1}, {56, 42, last32}, {57, 43, -1},
		{58, 45, 0xff}, {59, 47, 0xffff}, {60, 49, 0xff}, {61, 51, 0xffff}, {62, 53, last32},
	} {
		for _, bits := range []int{0, 1, -1, 0x7fa00001, 0x7fc00000, 0x7ff4000000000001, -0x8000000000001, math.MinInt, 0x123456789abcdef} {
			// Across the border of two pages.
			for at := page - 9; at <= page+1; at++ {
				checkStore(t, m, c.store, at-5, 5, bits, api.OK)
				checkLoad(t, m, c.load, 7, at-7, bits&c.mask, api.OK)
			}
		}
	}
}

// splits gives ways to make a place of an address and an offset.
func splits(place int) [][2]int {
	all := [][2]int{}
	for _, at := range []int{0, 1, place / 2, place - 1, place} {
		if at >= 0 && at <= place && at <= last32 && place-at <= last32 {
			all = append(all, [2]int{at, place - at})
		}
	}
	return all
}

func TestTheLastPlaces(t *testing.T) {
	for _, pages := range []int{1, 2, 16} {
		m := made(t, pages, 16)
		end := pages * page
		content := pattern(end)
		put(t, m, 0, content)
		for op := 40; op <= 53; op++ {
			size := loadSize(op)
			for _, s := range splits(end - size) {
				checkLoad(t, m, op, s[0], s[1], loaded(op, []byte(content)[end-size:]), api.OK)
			}
			for _, s := range splits(0) {
				checkLoad(t, m, op, s[0], s[1], loaded(op, []byte(content)[:size]), api.OK)
			}
			for beyond := end - size + 1; beyond <= end+9; beyond++ {
				for _, s := range splits(beyond) {
					checkLoad(t, m, op, s[0], s[1], 0, api.ErrMemoryBounds)
				}
			}
		}
		holds(t, "P8.2: behind loads at the end", m, content)
	}
}

func TestTheLastPlacesOfStores(t *testing.T) {
	for _, pages := range []int{1, 2, 16} {
		m := made(t, pages, 16)
		end := pages * page
		content := []byte(pattern(end))
		put(t, m, 0, string(content))
		for op := 54; op <= 62; op++ {
			size := storeSize(op)
			for beyond := end - size + 1; beyond <= end+9; beyond++ {
				for _, s := range splits(beyond) {
					checkStore(t, m, op, s[0], s[1], ^0x0f1e2d3c4b5a6978, api.ErrMemoryBounds)
				}
			}
			// A store that does not fit writes no part of itself.
			holds(t, fmt.Sprintf("R5: behind Store(%d) beyond the end", op), m, string(content))
			for i, s := range splits(end - size) {
				bits := 0x1122334455667788 + i + op<<16
				checkStore(t, m, op, s[0], s[1], bits, api.OK)
				var word [8]byte
				binary.LittleEndian.PutUint64(word[:], uint64(bits))
				copy(content[end-size:], word[:size])
			}
			holds(t, fmt.Sprintf("P8.2: behind Store(%d) at the end", op), m, string(content))
		}
	}
}

// Addresses and offsets whose sum passes 32 bits, and would lie in the memory if it wrapped.
func TestSumsBeyondAllAddresses(t *testing.T) {
	m := made(t, 1, 16)
	content := pattern(page)
	put(t, m, 0, content)
	ends := []int{1, 2, 7, 8, 9, 100, page - 8, page - 1, page, 1 << 31, last32 - 1, last32}
	for _, a := range ends {
		for _, b := range ends {
			if a+b <= page {
				continue
			}
			for op := 40; op <= 53; op++ {
				checkLoad(t, m, op, a, b, 0, api.ErrMemoryBounds)
			}
			for op := 54; op <= 62; op++ {
				checkStore(t, m, op, a, b, -1, api.ErrMemoryBounds)
			}
		}
	}
	for _, c := range [][2]int{{last32, 1}, {1, last32}, {last32, last32}, {1 << 31, 1 << 31}, {last32 - 7, 8}, {last32, 0}, {0, last32}, {last32 - 3, 0}, {0, last32 - 7}} {
		for op := 40; op <= 53; op++ {
			checkLoad(t, m, op, c[0], c[1], 0, api.ErrMemoryBounds)
		}
		for op := 54; op <= 62; op++ {
			checkStore(t, m, op, c[0], c[1], -1, api.ErrMemoryBounds)
		}
	}
	holds(t, "R5: behind stores beyond all addresses", m, content)
}

func TestNoPages(t *testing.T) {
	m := made(t, 0, 0)
	for op := 40; op <= 53; op++ {
		for _, at := range []int{0, 1, 8, last32} {
			checkLoad(t, m, op, at, 0, 0, api.ErrMemoryBounds)
			checkLoad(t, m, op, 0, at, 0, api.ErrMemoryBounds)
		}
	}
	for op := 54; op <= 62; op++ {
		for _, at := range []int{0, 1, 8, last32} {
			checkStore(t, m, op, at, 0, 1, api.ErrMemoryBounds)
			checkStore(t, m, op, 0, at, 1, api.ErrMemoryBounds)
		}
	}
	for _, c := range []struct {
		at    int
		bytes string
		code  api.Errno
	}{{0, "", api.OK}, {0, "a", api.ErrMemoryBounds}, {1, "", api.ErrMemoryBounds}, {-1, "", api.ErrMemoryBounds}, {-1, "a", api.ErrMemoryBounds}} {
		if e := m.Put(c.at, c.bytes); e != c.code {
			t.Errorf("P8.3: Put(%d, %q) into nothing: %d; want %d", c.at, c.bytes, e, c.code)
		}
	}
	checkGrow(t, m, 0, 0, 0)
	checkGrow(t, m, 1, last32, 0)
}

// wrongAddresses are no numbers of 32 bits without sign.
func wrongAddresses() []int {
	return []int{-1, -2, -8, -page, 1 << 32, 1<<32 + 1, -1 << 32, 1 << 33, 1 << 62, math.MaxInt, math.MaxInt - 8, math.MinInt, math.MinInt + 1}
}

// wrongOps are numbers that are none from first to last, those whose low bits alone are among them.
func wrongOps(first, last int) []int {
	all := []int{math.MaxInt, math.MinInt}
	for op := -300; op < 600; op++ {
		if op < first || op > last {
			all = append(all, op)
		}
	}
	for op := first; op <= last; op++ {
		all = append(all, op+1<<32, op-1<<32, op+math.MinInt, -op, op+256, op-256, op+1<<16)
	}
	return all
}

func TestWrongLoads(t *testing.T) {
	m := made(t, 1, 1)
	content := pattern(page)
	put(t, m, 0, content)
	for _, op := range wrongOps(40, 53) {
		checkLoad(t, m, op, 0, 0, 0, api.ErrMemoryForm)
		checkLoad(t, m, op, page, 0, 0, api.ErrMemoryForm)
		checkLoad(t, m, op, -1, 1, 0, api.ErrMemoryForm)
	}
	for op := 40; op <= 53; op++ {
		for _, x := range wrongAddresses() {
			// The other one may be right, beyond the end, or such that the sum lies in the memory.
			for _, y := range []int{0, 8, page, last32, -x, 8 - x, x} {
				checkLoad(t, m, op, x, y, 0, api.ErrMemoryForm)
				checkLoad(t, m, op, y, x, 0, api.ErrMemoryForm)
			}
		}
	}
	holds(t, "R5: behind wrong loads", m, content)
}

func TestWrongStores(t *testing.T) {
	m := made(t, 1, 1)
	content := pattern(page)
	put(t, m, 0, content)
	for _, op := range wrongOps(54, 62) {
		checkStore(t, m, op, 0, 0, -1, api.ErrMemoryForm)
		checkStore(t, m, op, page, 0, -1, api.ErrMemoryForm)
		checkStore(t, m, op, -1, 1, -1, api.ErrMemoryForm)
	}
	for op := 54; op <= 62; op++ {
		for _, x := range wrongAddresses() {
			for _, y := range []int{0, 8, page, last32, -x, 8 - x, x} {
				checkStore(t, m, op, x, y, -1, api.ErrMemoryForm)
				checkStore(t, m, op, y, x, -1, api.ErrMemoryForm)
			}
		}
	}
	holds(t, "R5: behind wrong stores", m, content)
}

func TestGrow(t *testing.T) {
	m := made(t, 0, 16)
	for had := range 16 {
		checkGrow(t, m, 0, had, had)
		checkGrow(t, m, 17-had, last32, had)
		checkGrow(t, m, 1, had, had+1)
	}
	checkGrow(t, m, 0, 16, 16)
	checkGrow(t, m, 1, last32, 16)
	holds(t, "P8.3: all pages", m, zeros(16))
	checkGrow(t, made(t, 0, 16), 16, 0, 16)
	checkGrow(t, made(t, 0, 16), 17, last32, 0)
	checkGrow(t, made(t, 3, 16), 13, 3, 16)
	checkGrow(t, made(t, 3, 16), 14, last32, 3)
}

// The lower of both bounds holds, whichever it is.
func TestGrowUpToTheLowerBound(t *testing.T) {
	for _, c := range []struct{ least, own, most, bound int }{
		{1, -1, 5, 5}, {1, 3, 5, 3}, {1, 5, 3, 3}, {1, 4, 4, 4}, {1, 65536, 4, 4}, {1, 4, 16, 4},
		{0, 0, 16, 0}, {2, 2, 16, 2}, {2, -1, 2, 2}, {0, 1, 16, 1}, {0, 16, 15, 15}, {0, 15, 16, 15}, {0, 17, 16, 16},
	} {
		for more := 0; more <= 18; more++ {
			m := limited(t, c.least, c.own, c.most)
			if c.least+more > c.bound {
				checkGrow(t, m, more, last32, c.least)
				continue
			}
			checkGrow(t, m, more, c.least, c.least+more)
			checkGrow(t, m, c.bound-c.least-more+1, last32, c.least+more)
			checkGrow(t, m, c.bound-c.least-more, c.least+more, c.bound)
			checkGrow(t, m, 1, last32, c.bound)
			checkGrow(t, m, 0, c.bound, c.bound)
		}
	}
}

func TestGrowByTheLow32Bits(t *testing.T) {
	for _, c := range []struct{ pages, low int }{
		{1 << 32, 0}, {1<<32 + 2, 2}, {-1 << 32, 0}, {-1<<32 + 3, 3}, {math.MinInt, 0}, {math.MinInt + 1, 1}, {1<<62 + 4, 4}, {5<<32 + 5, 5},
	} {
		m := made(t, 1, 16)
		checkGrow(t, m, c.pages, 1, 1+c.low)
	}
	for _, pages := range []int{-1, -2, -16, math.MaxInt, 1 << 31, last32, last32 - 1, -1 << 31, 65536, 65537, 1<<32 - 16, 1<<33 - 1, 1<<32 + 16} {
		m := made(t, 1, 16)
		checkGrow(t, m, pages, last32, 1)
	}
}

// What was written stays, what is new is 0, and no growth changes nothing.
func TestGrowKeepsBytes(t *testing.T) {
	m := made(t, 1, 4)
	content := pattern(page)
	put(t, m, 0, content)
	checkGrow(t, m, 0, 1, 1)
	holds(t, "P8.3: behind a growth by nothing", m, content)
	checkGrow(t, m, 4, last32, 1)
	holds(t, "P8.3: behind no growth", m, content)
	checkLoad(t, m, 45, page, 0, 0, api.ErrMemoryBounds)
	checkGrow(t, m, 2, 1, 3)
	holds(t, "P8.3: behind a growth", m, content+zeros(2))
	checkStore(t, m, 58, 3*page-1, 0, 0xab, api.OK)
	checkLoad(t, m, 40, 3*page-4, 0, 0xab000000, api.OK)
	checkStore(t, m, 58, 3*page, 0, 0xab, api.ErrMemoryBounds)
	checkGrow(t, m, 1, 3, 4)
	holds(t, "P8.3: behind the last growth", m, content+zeros(2)[1:]+"\xab"+zeros(1))
	checkGrow(t, m, 1, last32, 4)
	holds(t, "P8.3: behind no growth any more", m, content+zeros(2)[1:]+"\xab"+zeros(1))
}

func TestPut(t *testing.T) {
	m := made(t, 2, 2)
	end := 2 * page
	want := []byte(zeros(2))
	for _, c := range []struct {
		at    int
		bytes string
	}{
		{0, "abc"}, {1, "\xff\x00\x80"}, {page - 2, "over"}, {end - 2, "yz"}, {end - 1, "Z"}, {0, ""}, {end, ""}, {500, pattern(page)}, {0, pattern(end)}, {7, ""},
	} {
		put(t, m, c.at, c.bytes)
		copy(want[c.at:], c.bytes)
		holds(t, fmt.Sprintf("P8.3: behind Put(%d, %d bytes)", c.at, len(c.bytes)), m, string(want))
	}
	checkLoad(t, m, 41, 40, 2, loaded(41, want[42:50]), api.OK)
}

func TestPutThatDoesNotFit(t *testing.T) {
	m := made(t, 2, 16)
	end := 2 * page
	content := pattern(end)
	put(t, m, 0, content)
	for _, c := range []struct {
		at    int
		bytes string
	}{
		{-1, ""}, {-1, "a"}, {-1, "ab"}, {-3, "abcdef"}, {math.MinInt, ""}, {math.MinInt, "a"}, {-page, zeros(1)},
		{end + 1, ""}, {end, "a"}, {end - 1, "ab"}, {end - 7, "12345678"}, {end + 1, "a"}, {0, zeros(2) + "a"}, {1, zeros(2)},
		{math.MaxInt, ""}, {math.MaxInt, "a"}, {math.MaxInt - 1, "ab"}, {math.MaxInt, zeros(2)}, {1 << 32, "a"}, {1 << 32, ""}, {1<<32 + 4, "a"}, {1 << 62, "ab"},
	} {
		if e := m.Put(c.at, c.bytes); e != api.ErrMemoryBounds {
			t.Errorf("P8.3: Put(%d, %d bytes): %d; want 801", c.at, len(c.bytes), e)
		}
		// Nor is a part written.
		holds(t, fmt.Sprintf("R5: behind Put(%d, %d bytes)", c.at, len(c.bytes)), m, content)
	}
}

// Neither a text that was handed in nor one that was answered changes with what is written later, and two memories
// that were given one text have each their own.
func TestNothingIsShared(t *testing.T) {
	m, other := made(t, 1, 2), made(t, 1, 2)
	given, content := pattern(page), pattern(page)
	put(t, m, 0, given)
	put(t, other, 0, given)
	first, second := m.All(), m.All()
	checkStore(t, m, 55, 16, 0, 0x1234567812345678, api.OK)
	put(t, m, page-1, "\x00")
	checkGrow(t, m, 1, 1, 2)
	checkStore(t, m, 55, 32, 0, 0x1234567812345678, api.OK)
	checkStore(t, m, 58, page+1, 0, 0x77, api.OK)
	if given != content {
		t.Error("R4: what was handed in has changed")
	}
	if first != content || second != content {
		t.Error("R4: what All answered has changed")
	}
	holds(t, "R4: behind stores into another memory", other, content)
	written := content[:16] + "\x78\x56\x34\x12\x78\x56\x34\x12" + content[24:32] + "\x78\x56\x34\x12\x78\x56\x34\x12" + content[40:page-1] + "\x00\x00\x77" + zeros(1)[2:]
	all := m.All()
	put(t, other, 0, all[:page])
	checkStore(t, other, 54, 0, 0, ^0, api.OK)
	checkGrow(t, other, 1, 1, 2)
	holds(t, "R4: behind a store of its bytes elsewhere", m, written)
	holds(t, "R4: the other's new page", other, "\xff\xff\xff\xff"+written[4:page]+zeros(1))
	if all != written {
		t.Error("R4: what All answered behind a growth has changed")
	}
}

func TestNilMemory(t *testing.T) {
	var none *Memory
	// Wrong numbers too: ErrNil goes ahead of them.
	for _, op := range []int{40, 53, 54, 62, 0, -1} {
		for _, at := range []int{0, -1, 1 << 40} {
			checkLoad(t, none, op, at, at, 0, api.ErrNil)
			checkStore(t, none, op, at, at, 1, api.ErrNil)
		}
	}
	for _, at := range []int{0, -1, math.MaxInt} {
		if e := none.Put(at, "a"); e != api.ErrNil {
			t.Errorf("R3: Put(%d) of nil: %d; want 1", at, e)
		}
	}
	for _, pages := range []int{0, 1, -1, 17} {
		if got := none.Grow(pages); got != 0 {
			t.Errorf("R3: Grow(%d) of nil: %d; want 0", pages, got)
		}
	}
	if got := none.Pages(); got != 0 {
		t.Errorf("R3: Pages of nil: %d; want 0", got)
	}
	if got := none.All(); got != "" {
		t.Errorf("R3: All of nil: %d bytes; want none", len(got))
	}
}

// A memory that New did not make has nothing, and may not grow.
func TestZeroMemory(t *testing.T) {
	m := &Memory{}
	checkLoad(t, m, 40, 0, 0, 0, api.ErrMemoryBounds)
	checkStore(t, m, 54, 0, 0, 1, api.ErrMemoryBounds)
	checkGrow(t, m, 0, 0, 0)
	checkGrow(t, m, 1, last32, 0)
	put(t, m, 0, "")
	holds(t, "P8.3: a memory of nothing", m, "")
}

// The memory beside a plain list of bytes: loads, stores, writes, growths in any order, many at the borders.
func TestBesideBytes(t *testing.T) {
	r := row(8)
	m, want := made(t, 1, 5), []byte(zeros(1))
	place := func() (int, int) {
		x := r.below(len(want) + 4)
		if r.below(2) == 0 {
			x = max(0, r.below(6)*page-12+r.below(24))
		}
		at := r.below(x + 1)
		return at, x - at
	}
	for step := range 40000 {
		switch kind := r.below(1000); {
		case kind < 1:
			had, more := len(want)/page, r.below(2)
			if had+more > 5 {
				checkGrow(t, m, more+r.below(3)<<32, last32, had)
				continue
			}
			checkGrow(t, m, more+r.below(3)<<32, had, had+more)
			want = append(want, zeros(more)...)
		case kind < 500:
			at, offset := place()
			op := 40 + r.below(14)
			if x := at + offset; x+loadSize(op) <= len(want) {
				checkLoad(t, m, op, at, offset, loaded(op, want[x:x+loadSize(op)]), api.OK)
			} else {
				checkLoad(t, m, op, at, offset, 0, api.ErrMemoryBounds)
			}
		case kind < 990:
			at, offset := place()
			op, bits := 54+r.below(9), r.word()
			if x := at + offset; x+storeSize(op) <= len(want) {
				checkStore(t, m, op, at, offset, bits, api.OK)
				var word [8]byte
				binary.LittleEndian.PutUint64(word[:], uint64(bits))
				copy(want[x:], word[:storeSize(op)])
			} else {
				checkStore(t, m, op, at, offset, bits, api.ErrMemoryBounds)
			}
		default:
			at, offset := place()
			text := pattern(r.below(300))
			fits := at+offset+len(text) <= len(want)
			if e := m.Put(at+offset, text); fits != (e == api.OK) || !fits && e != api.ErrMemoryBounds {
				t.Fatalf("P8.3: Put(%d, %d bytes): %d", at+offset, len(text), e)
			}
			if fits {
				copy(want[at+offset:], text)
			}
		}
		if t.Failed() {
			t.Fatalf("at step %d", step)
		}
	}
	holds(t, "P8.2: behind all", m, string(want))
}

// As much as a run may ask for ends soon: a million loads, stores and growths by nothing of sixteen pages, none of
// which takes new memory.
func TestAMillionSteps(t *testing.T) {
	m := made(t, 16, 16)
	if taken := testing.AllocsPerRun(10, func() { m.Grow(0) }); taken != 0 {
		t.Fatalf("P8.3: a growth by nothing takes memory %v times", taken)
	}
	for i := range 1000000 {
		if m.Store(55, i&0xffff8, 7, i) != api.OK {
			t.Fatalf("P8.2: Store at step %d", i)
		}
		if x, e := m.Load(41, i&0xffff8, 7); x != i || e != api.OK {
			t.Fatalf("P8.2: Load at step %d: %d, %d", i, x, e)
		}
		if m.Grow(0) != 16 {
			t.Fatalf("P8.3: Grow at step %d", i)
		}
	}
}
