package table

import (
	"fmt"
	"math"
	"slices"
	"sync"
	"testing"

	"pelorus/api"
)

// last32 is the greatest number of 32 bits without sign.
const last32 = 1<<32 - 1

// made gives a table of that many places.
func made(t *testing.T, least int) *Table {
	t.Helper()
	return limited(t, least, -1)
}

// limited gives a table by both numbers.
func limited(t *testing.T, least, most int) *Table {
	t.Helper()
	x, e := New(api.Limits{Least: least, Most: most})
	if x == nil || e != api.OK {
		t.Fatalf("P9.1: New({%d, %d}): %v, %d; want a table, 0", least, most, x != nil, e)
	}
	return x
}

// put writes functions that are known to fit.
func put(t *testing.T, x *Table, at int, funcs ...int) {
	t.Helper()
	checkPut(t, x, at, funcs, api.OK)
}

// checkPut asks one Put.
func checkPut(t *testing.T, x *Table, at int, funcs []int, code api.Errno) {
	t.Helper()
	if e := x.Put(at, funcs); e != code {
		t.Errorf("P9.1: Put(%d, %d functions): %d; want %d", at, len(funcs), e, code)
	}
}

// checkGet asks one Get.
func checkGet(t *testing.T, x *Table, at, want int, code api.Errno) {
	t.Helper()
	if f, e := x.Get(at); f != want || e != code {
		t.Errorf("P9.1: Get(%d): %d, %d; want %d, %d", at, f, e, want, code)
	}
}

// holds asks all of a table's places, by All and by Get, and those beside them.
func holds(t *testing.T, what string, x *Table, want []int) {
	t.Helper()
	if got := x.All(); !slices.Equal(got, want) {
		t.Fatalf("%s: All: %v; want %v", what, got, want)
	}
	for at, f := range want {
		if f == -1 {
			checkGet(t, x, at, 0, api.ErrTableNull)
		} else {
			checkGet(t, x, at, f, api.OK)
		}
	}
	checkGet(t, x, -1, 0, api.ErrTableBounds)
	checkGet(t, x, len(want), 0, api.ErrTableBounds)
}

// nulls gives what All answers of that many places of null.
func nulls(size int) []int { return slices.Repeat([]int{-1}, size) }

// count gives that many functions in a row, from first on.
func count(first, size int) []int {
	out := make([]int, size)
	for i := range out {
		out[i] = first + i
	}
	return out
}

// row is a row of numbers.
type row uint64

func (r *row) below(n int) int {
	*r = *r*6364136223846793005 + 1442695040888963407
	return int(uint64(*r) >> 32 % uint64(n))
}

func TestNewIsPlacesOfNull(t *testing.T) {
	for _, least := range []int{0, 1, 2, 3, 511, 1023, 1024} {
		for _, most := range []int{-1, least, least + 1, 1024, 1025, 65536, 1 << 31, last32 - 1, last32} {
			holds(t, fmt.Sprintf("P9.1: New({%d, %d})", least, most), limited(t, least, most), nulls(least))
		}
	}
}

func TestNewOfWrongLimits(t *testing.T) {
	for _, c := range []struct{ least, most int }{
		{-1, -1}, {-1, 0}, {-1, 5}, {-2, -1}, {-5, -2}, {math.MinInt, -1}, {math.MinInt, math.MinInt},
		{1025, -1}, {1025, 1025}, {1025, last32}, {1026, -1}, {65536, -1}, {last32, last32}, {1 << 32, -1}, {math.MaxInt, -1}, {math.MaxInt, math.MaxInt},
		{0, -2}, {1, -2}, {1024, -2}, {0, math.MinInt}, {4, math.MinInt}, {0, -1 << 32},
		{1, 0}, {2, 1}, {1024, 1023}, {1024, 0}, {1025, 1024},
		{0, 1 << 32}, {0, 1<<32 + 1}, {1024, 1 << 32}, {3, math.MaxInt}, {0, 1 << 62},
	} {
		if x, e := New(api.Limits{Least: c.least, Most: c.most}); x != nil || e != api.ErrTableForm {
			t.Errorf("P9.1: New({%d, %d}): %v, %d; want nil, 900", c.least, c.most, x != nil, e)
		}
	}
}

func TestPutAndGet(t *testing.T) {
	x := made(t, 6)
	for _, c := range []struct {
		at    int
		funcs []int
		want  []int
	}{
		{1, []int{7}, []int{-1, 7, -1, -1, -1, -1}},                                    // one
		{2, []int{8, 9}, []int{-1, 7, 8, 9, -1, -1}},                                   // behind it
		{1, []int{5, 4}, []int{-1, 5, 4, 9, -1, -1}},                                   // over both of them
		{5, []int{0}, []int{-1, 5, 4, 9, -1, 0}},                                       // at the last place, the function 0
		{0, []int{3, 3}, []int{3, 3, 4, 9, -1, 0}},                                     // one function twice
		{3, []int{}, []int{3, 3, 4, 9, -1, 0}},                                         // nothing
		{6, nil, []int{3, 3, 4, 9, -1, 0}},                                             // nothing, at the end
		{6, []int{}, []int{3, 3, 4, 9, -1, 0}},                                         // the same, by a list that is there
		{0, nil, []int{3, 3, 4, 9, -1, 0}},                                             // nothing, at the first place
		{3, []int{math.MaxInt, last32, 256}, []int{3, 3, 4, math.MaxInt, last32, 256}}, // up to the end
		{0, []int{10, 11, 12, 13, 14, 15}, []int{10, 11, 12, 13, 14, 15}},              // all of them
		{0, []int{0, 0, 0, 0, 0, 0}, []int{0, 0, 0, 0, 0, 0}},                          // and again
	} {
		checkPut(t, x, c.at, c.funcs, api.OK)
		holds(t, fmt.Sprintf("P9.1: behind Put(%d, %v)", c.at, c.funcs), x, c.want)
	}
}

// The most places that there are: all written, the last one alone, one function too many.
func TestTheMostPlaces(t *testing.T) {
	x := limited(t, 1024, 1024)
	checkPut(t, x, 0, count(0, 1025), api.ErrTableBounds)
	checkPut(t, x, 1, count(0, 1024), api.ErrTableBounds)
	holds(t, "R5: behind functions that do not fit", x, nulls(1024))
	put(t, x, 1023, 77)
	checkPut(t, x, 1023, count(0, 2), api.ErrTableBounds)
	checkPut(t, x, 1024, count(0, 1), api.ErrTableBounds)
	checkPut(t, x, 1024, nil, api.OK)
	checkPut(t, x, 1025, nil, api.ErrTableBounds)
	holds(t, "P9.1: the last place", x, append(nulls(1023), 77))
	checkPut(t, x, 0, count(2000, 1024), api.OK)
	holds(t, "P9.1: all places", x, count(2000, 1024))
}

func TestNoPlaces(t *testing.T) {
	for _, x := range []*Table{made(t, 0), limited(t, 0, 0), limited(t, 0, last32), {}} {
		checkPut(t, x, 0, nil, api.OK)
		checkPut(t, x, 0, []int{}, api.OK)
		checkPut(t, x, 1, nil, api.ErrTableBounds)
		checkPut(t, x, -1, nil, api.ErrTableBounds)
		checkPut(t, x, 0, []int{0}, api.ErrTableBounds)
		checkPut(t, x, 0, []int{-1}, api.ErrTableForm)
		checkGet(t, x, 0, 0, api.ErrTableBounds)
		holds(t, "P9.1: a table of nothing", x, nil)
	}
}

// A greatest size is no place: nothing may be written or read behind the least one.
func TestMostGivesNoPlaces(t *testing.T) {
	for _, most := range []int{-1, 2, 3, 1024, last32} {
		x := limited(t, 2, most)
		checkPut(t, x, 2, []int{1}, api.ErrTableBounds)
		checkPut(t, x, 1, []int{1, 2}, api.ErrTableBounds)
		checkGet(t, x, 2, 0, api.ErrTableBounds)
		holds(t, fmt.Sprint("P9.1: a greatest size of ", most), x, nulls(2))
	}
}

func TestGetBesideThePlaces(t *testing.T) {
	x := made(t, 4)
	put(t, x, 0, 1, 2, 3, 4)
	for _, at := range []int{-1, -2, -4, math.MinInt, math.MinInt + 1, -1 << 32, 4, 5, 1024, 1 << 31, last32, 1 << 32, 1<<32 + 1, 1 << 62, math.MaxInt} {
		checkGet(t, x, at, 0, api.ErrTableBounds)
	}
	holds(t, "R5: behind wrong places", x, []int{1, 2, 3, 4})
}

func TestPutThatDoesNotFit(t *testing.T) {
	x := made(t, 4)
	put(t, x, 1, 7, 8)
	want := []int{-1, 7, 8, -1}
	for _, c := range []struct{ at, size int }{
		{-1, 0}, {-1, 1}, {-1, 2}, {-4, 4}, {-4, 8}, {-2, 0}, {math.MinInt, 0}, {math.MinInt, 1}, {-1 << 32, 2},
		{5, 0}, {4, 1}, {3, 2}, {2, 3}, {1, 4}, {0, 5}, {5, 1}, {6, 0}, {1024, 0}, {0, 5000},
		{math.MaxInt, 0}, {math.MaxInt, 1}, {math.MaxInt - 1, 2}, {math.MaxInt, 4}, {1 << 32, 0}, {1 << 32, 1}, {1<<32 + 1, 1}, {1 << 62, 1}, {last32, 2},
	} {
		checkPut(t, x, c.at, count(20, c.size), api.ErrTableBounds)
		// Nor is a part written.
		holds(t, fmt.Sprintf("R5: behind Put(%d, %d functions)", c.at, c.size), x, want)
	}
}

// A function below 0 is refused wherever it stands, ahead of the bounds, and those beside it are not written.
func TestPutOfNoFunctions(t *testing.T) {
	x := made(t, 4)
	put(t, x, 1, 7, 8)
	want := []int{-1, 7, 8, -1}
	for _, funcs := range [][]int{
		{-1}, {-2}, {math.MinInt}, {-1 << 32}, {-1, 3}, {3, -1}, {3, -1, 4}, {-1, -1}, {1, 2, 3, -1}, {-1, 1, 2, 3}, {1, 2, 3, 4, -1}, {1, 2, 3, 4, 5, math.MinInt}, append(count(0, 2000), -1),
	} {
		for _, at := range []int{0, 1, 2, 3, 4, 5, -1, math.MinInt, math.MaxInt, 1 << 32} {
			checkPut(t, x, at, funcs, api.ErrTableForm)
			holds(t, fmt.Sprintf("R5: behind Put(%d, %d functions) with one below 0", at, len(funcs)), x, want)
		}
	}
}

func TestNilTable(t *testing.T) {
	var none *Table
	// Wrong inputs too: ErrNil goes ahead of them.
	for _, at := range []int{0, 1, -1, math.MaxInt, math.MinInt} {
		checkGet(t, none, at, 0, api.ErrNil)
		for _, funcs := range [][]int{nil, {}, {1}, {-1}} {
			checkPut(t, none, at, funcs, api.ErrNil)
		}
	}
	if got := none.All(); len(got) != 0 {
		t.Errorf("R3: All of nil: %v; want none", got)
	}
}

// A list that was handed in is neither kept nor changed, behind its end neither, whatever Put answers of it.
func TestWhatIsHandedInIsItsCallers(t *testing.T) {
	x, other := made(t, 5), made(t, 5)
	room := []int{1, 2, 3, 91, 92, 93}
	given := room[:3]
	for _, at := range []int{0, 1, 2, 3, -1, 5, 6} {
		x.Put(at, given)
		other.Put(at, given)
		x.Put(at, room[4:4])
	}
	spoilt := []int{4, -1, 5, 94}
	checkPut(t, x, 0, spoilt[:3], api.ErrTableForm)
	if !slices.Equal(room, []int{1, 2, 3, 91, 92, 93}) || !slices.Equal(spoilt, []int{4, -1, 5, 94}) {
		t.Errorf("R4: what was handed in is now %v, %v", room, spoilt)
	}
	want := []int{1, 1, 1, 2, 3}
	given[0], given[1], given[2], room[3] = 50, 51, 52, 53
	holds(t, "R4: behind a change of what was handed in", x, want)
	put(t, other, 2, 60)
	holds(t, "R4: behind a Put into another table", x, want)
	if !slices.Equal(given, []int{50, 51, 52}) {
		t.Errorf("R4: what was handed in is now %v", given)
	}
}

// Nor is a list kept that fills the table from a place to its end, or whole.
func TestAListThatFillsTheTable(t *testing.T) {
	for at := range 5 {
		x, given := made(t, 4), count(30, 4-at)
		checkPut(t, x, at, given, api.OK)
		clear(given)
		want := append(nulls(at), count(30, 4-at)...)
		holds(t, fmt.Sprint("R4: behind a change of what was handed in from ", at), x, want)
		again := count(40, 4-at)
		checkPut(t, x, at, again, api.OK)
		checkPut(t, x, at, count(50, 4-at), api.OK)
		if !slices.Equal(again, count(40, 4-at)) {
			t.Errorf("R4: what was handed in is now %v", again)
		}
	}
}

// No list that was answered is the table's own, nor another answer's, behind its end neither.
func TestWhatIsAnsweredIsItsCallers(t *testing.T) {
	for _, size := range []int{0, 1, 3, 5, 1024} {
		x := made(t, size)
		checkPut(t, x, 0, count(10, size), api.OK)
		first, second := x.All(), x.All()
		clear(first[:cap(first)])
		_ = append(first, 99)
		_ = append(first[:0], -7)
		holds(t, "R4: behind a change of what was answered", x, count(10, size))
		if !slices.Equal(second, count(10, size)) {
			t.Errorf("R4: one answer changed with another, of %d places", size)
		}
		checkPut(t, x, 0, count(500, size), api.OK)
		if !slices.Equal(second, count(10, size)) {
			t.Errorf("R4: an answer changed with a Put, of %d places", size)
		}
	}
}

// What All answered may be handed in again, to its own table too, where there is no null in it.
func TestAnAnswerHandedIn(t *testing.T) {
	x := made(t, 4)
	put(t, x, 0, 1, 2, 3, 4)
	all := x.All()
	checkPut(t, x, 1, all[:3], api.OK)
	holds(t, "P9.1: its own functions, one place on", x, []int{1, 1, 2, 3})
	checkPut(t, x, 0, all, api.OK)
	holds(t, "P9.1: its own functions, as they were", x, []int{1, 2, 3, 4})
	fresh := made(t, 2)
	put(t, fresh, 0, 5)
	checkPut(t, fresh, 0, fresh.All(), api.ErrTableForm)
	holds(t, "P9.1: its own places, one of them null", fresh, []int{5, -1})
}

// Tables are each their own, and may be made at one time.
func TestTablesAtOneTime(t *testing.T) {
	var all sync.WaitGroup
	for k := range 8 {
		all.Go(func() {
			x, e := New(api.Limits{Least: 9, Most: -1})
			if e != api.OK {
				t.Errorf("R5: New: %d", e)
				return
			}
			checkPut(t, x, k, []int{k}, api.OK)
			want := nulls(9)
			want[k] = k
			if got := x.All(); !slices.Equal(got, want) {
				t.Errorf("R5: table %d: %v; want %v", k, got, want)
			}
		})
	}
	all.Wait()
}

// The table beside a plain list: writes and questions in any order, many at the borders.
func TestBesideAList(t *testing.T) {
	r := row(9)
	for _, size := range []int{0, 1, 2, 7, 40, 1024} {
		x, want := made(t, size), nulls(size)
		for step := range 3000 {
			at, funcs := r.below(size+6)-3, count(r.below(300), r.below(6))
			if len(funcs) > 0 && r.below(4) == 0 {
				funcs[r.below(len(funcs))] = -1 - r.below(3)
			}
			code := api.OK
			if slices.ContainsFunc(funcs, func(f int) bool { return f < 0 }) {
				code = api.ErrTableForm
			} else if at < 0 || at+len(funcs) > size {
				code = api.ErrTableBounds
			} else {
				copy(want[at:], funcs)
			}
			checkPut(t, x, at, funcs, code)
			if step%100 == 0 {
				holds(t, fmt.Sprintf("P9.1: %d places, step %d", size, step), x, want)
			}
			if t.Failed() {
				t.Fatalf("at step %d of %d places: Put(%d, %v)", step, size, at, funcs)
			}
		}
		holds(t, fmt.Sprintf("P9.1: %d places, behind all", size), x, want)
	}
}

// As many questions as a run may ask end soon, and take no memory.
func TestAMillionGets(t *testing.T) {
	x := made(t, 1024)
	checkPut(t, x, 0, count(5, 1024), api.OK)
	if taken := testing.AllocsPerRun(10, func() { x.Get(7) }); taken != 0 {
		t.Fatalf("P9.1: Get takes memory %v times", taken)
	}
	for i := range 1000000 {
		if f, e := x.Get(i & 1023); f != 5+i&1023 || e != api.OK {
			t.Fatalf("P9.1: Get at step %d: %d, %d", i, f, e)
		}
	}
}
