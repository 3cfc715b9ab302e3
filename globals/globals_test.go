package globals

import (
	"fmt"
	"math"
	"slices"
	"sync"
	"testing"

	"pelorus/api"
)

// last32 is the greatest number of 32 bits without sign.
const last32 = 1<<32 - 1

// four are the types that there are.
func four() []int { return []int{api.TypeI32, api.TypeI64, api.TypeF32, api.TypeF64} }

// noTypes are numbers that are none of the four.
func noTypes() []int {
	return []int{0, 1, -1, api.TypeNone, 123, 128, 112, 255, -api.TypeI32, 1<<8 + api.TypeI64, 1<<32 + api.TypeI32, math.MinInt, math.MaxInt}
}

// wide tells whether values of a type have 64 bits.
func wide(kind int) bool { return kind == api.TypeI64 || kind == api.TypeF64 }

// val gives a value of a type.
func val(kind, bits int) api.Val { return api.Val{Type: kind, Bits: bits} }

// add adds a global that is known to be right.
func add(t *testing.T, g *Globals, v api.Val, mut bool) {
	t.Helper()
	checkAdd(t, g, v, mut, api.OK)
}

// checkAdd asks one Add.
func checkAdd(t *testing.T, g *Globals, v api.Val, mut bool, code api.Errno) {
	t.Helper()
	if e := g.Add(v, mut); e != code {
		t.Errorf("P10.1: Add(%v, %v): %d; want %d", v, mut, e, code)
	}
}

// checkSet asks one Set.
func checkSet(t *testing.T, g *Globals, k int, v api.Val, code api.Errno) {
	t.Helper()
	if e := g.Set(k, v); e != code {
		t.Errorf("P10.1: Set(%d, %v): %d; want %d", k, v, e, code)
	}
}

// checkGet asks one Get.
func checkGet(t *testing.T, g *Globals, k int, want api.Val, code api.Errno) {
	t.Helper()
	if v, e := g.Get(k); v != want || e != code {
		t.Errorf("P10.1: Get(%d): %v, %d; want %v, %d", k, v, e, want, code)
	}
}

// holds asks all globals, by All and by Get, and those beside them.
func holds(t *testing.T, what string, g *Globals, want []api.Val) {
	t.Helper()
	if got := g.All(); !slices.Equal(got, want) {
		t.Fatalf("%s: All: %v; want %v", what, got, want)
	}
	for k, v := range want {
		checkGet(t, g, k, v, api.OK)
	}
	checkGet(t, g, -1, api.Val{}, api.ErrGlobalForm)
	checkGet(t, g, len(want), api.Val{}, api.ErrGlobalForm)
}

// count gives that many values in a row, of the four types in turn, from first on.
func count(first, size int) []api.Val {
	out := make([]api.Val, size)
	for i := range out {
		out[i] = val(four()[i%4], first+i)
	}
	return out
}

// filled gives globals of values, all of them mut or none.
func filled(t *testing.T, mut bool, vs ...api.Val) *Globals {
	t.Helper()
	g := New()
	for _, v := range vs {
		add(t, g, v, mut)
	}
	return g
}

// row is a row of numbers.
type row uint64

func (r *row) below(n int) int {
	*r = *r*6364136223846793005 + 1442695040888963407
	return int(uint64(*r) >> 32 % uint64(n))
}

// edges are bits at the borders of 32, and whether they are bits of 32.
func edges() []struct {
	bits   int
	narrow bool
} {
	return []struct {
		bits   int
		narrow bool
	}{
		{0, true}, {1, true}, {1<<31 - 1, true}, {1 << 31, true}, {last32 - 1, true}, {last32, true},
		{1 << 32, false}, {1<<32 + 1, false}, {1 << 62, false}, {math.MaxInt, false},
		{-1, false}, {-2, false}, {-1 << 31, false}, {-1 << 32, false}, {math.MinInt, false},
	}
}

func TestNewHasNone(t *testing.T) {
	for _, g := range []*Globals{New(), {}} {
		if g == nil {
			t.Fatal("P10.1: New: nil; want globals")
		}
		holds(t, "P10.1: no globals", g, nil)
		for _, k := range []int{0, 1, -1, 1024, math.MinInt, math.MaxInt} {
			checkGet(t, g, k, api.Val{}, api.ErrGlobalForm)
			checkSet(t, g, k, val(api.TypeI32, 1), api.ErrGlobalForm)
		}
		add(t, g, val(api.TypeF64, -3), false)
		holds(t, "P10.1: one global", g, []api.Val{val(api.TypeF64, -3)})
	}
}

func TestAddGetAndSet(t *testing.T) {
	g := New()
	var want []api.Val
	for i, kind := range four() {
		for _, mut := range []bool{false, true} {
			v := val(kind, 10*i+1)
			add(t, g, v, mut)
			want = append(want, v)
			holds(t, fmt.Sprintf("P10.1: behind Add(%v, %v)", v, mut), g, want)
		}
	}
	for k := range want {
		v := val(want[k].Type, 1000+k)
		if k%2 == 0 {
			checkSet(t, g, k, v, api.ErrGlobalConst)
			checkSet(t, g, k, want[k], api.ErrGlobalConst) // the value that it has, too
		} else {
			checkSet(t, g, k, v, api.OK)
			want[k] = v
		}
		holds(t, fmt.Sprintf("P10.1: behind Set(%d, %v)", k, v), g, want)
	}
	checkSet(t, g, 7, val(api.TypeF64, 5), api.OK) // and again
	checkSet(t, g, 7, val(api.TypeF64, 0), api.OK)
	want[7] = val(api.TypeF64, 0)
	holds(t, "P10.1: behind a third Set", g, want)
	add(t, g, val(api.TypeI64, 9), true) // one more is none of those that stand
	holds(t, "P10.1: behind one more", g, append(want, val(api.TypeI64, 9)))
}

// One list of types tells of no other: a global that is mut, beside some that are not, at each place.
func TestWhichMayBeSet(t *testing.T) {
	for free := range 9 {
		g, want := New(), count(40, 9)
		for k, v := range want {
			add(t, g, v, k == free)
		}
		for k, v := range want {
			code := api.ErrGlobalConst
			if k == free {
				code = api.OK
			}
			checkSet(t, g, k, val(v.Type, 7), code)
		}
		want[free].Bits = 7
		holds(t, fmt.Sprint("P10.1: only one is mut: ", free), g, want)
	}
}

func TestBitsAtTheEdges(t *testing.T) {
	for _, kind := range four() {
		for _, c := range edges() {
			g := filled(t, true, val(kind, 5))
			v, want, code := val(kind, c.bits), []api.Val{val(kind, 5)}, api.ErrGlobalForm
			if c.narrow || wide(kind) {
				code = api.OK
			}
			checkAdd(t, g, v, false, code)
			if code == api.OK {
				want = append(want, v)
			}
			holds(t, fmt.Sprintf("P10.1: behind Add(%v)", v), g, want)
			checkSet(t, g, 0, v, code)
			if code == api.OK {
				want[0] = v
			}
			holds(t, fmt.Sprintf("P10.1: behind Set(0, %v)", v), g, want)
		}
	}
}

func TestNoTypes(t *testing.T) {
	want := count(3, 4)
	for _, mut := range []bool{false, true} {
		g := filled(t, mut, want...)
		for _, kind := range noTypes() {
			for _, bits := range []int{0, 5, -1, last32, 1 << 32} {
				checkAdd(t, g, val(kind, bits), mut, api.ErrGlobalForm)
				for k := range want {
					checkSet(t, g, k, val(kind, bits), api.ErrGlobalForm)
				}
			}
		}
		holds(t, "R5: behind types that are none", g, want)
	}
}

// A value of another type is refused as one that may not be is: ahead of a global that is not mut.
func TestSetOfAnotherType(t *testing.T) {
	for _, mut := range []bool{false, true} {
		want := count(3, 4)
		g := filled(t, mut, want...)
		for k, own := range four() {
			for _, kind := range four() {
				for _, bits := range []int{0, 1, 3 + k, last32} {
					if kind != own {
						checkSet(t, g, k, val(kind, bits), api.ErrGlobalForm)
					}
				}
			}
		}
		holds(t, "R5: behind values of other types", g, want)
	}
}

// ErrGlobalForm goes ahead of ErrGlobalConst, whatever the form's fault is.
func TestWhichErrorGoesAhead(t *testing.T) {
	want := count(3, 4)
	g := filled(t, false, want...)
	for _, k := range []int{-1, 4, math.MinInt, math.MaxInt} {
		for _, v := range []api.Val{{}, val(api.TypeI32, 1), val(api.TypeF64, -1), val(api.TypeF32, -1)} {
			checkSet(t, g, k, v, api.ErrGlobalForm)
		}
	}
	for k, kind := range four() {
		if !wide(kind) {
			checkSet(t, g, k, val(kind, 1<<32), api.ErrGlobalForm)
			checkSet(t, g, k, val(kind, -1), api.ErrGlobalForm)
		}
		checkSet(t, g, k, api.Val{}, api.ErrGlobalForm)
		checkSet(t, g, k, val(kind, last32), api.ErrGlobalConst)
	}
	holds(t, "R5: behind errors", g, want)
}

func TestBesideTheGlobals(t *testing.T) {
	want := count(20, 5)
	g := filled(t, true, want...)
	for _, k := range []int{-1, -2, -5, math.MinInt, math.MinInt + 1, -1 << 32, 5, 6, 8, 1023, 1024, 1 << 31, last32, 1 << 32, 1<<32 + 1, 1 << 62, math.MaxInt} {
		checkGet(t, g, k, api.Val{}, api.ErrGlobalForm)
		for _, kind := range four() {
			checkSet(t, g, k, val(kind, 1), api.ErrGlobalForm)
		}
	}
	holds(t, "R5: behind wrong numbers", g, want)
}

// The most globals that there are: all of them stand, one more is refused, the first and the last may be set.
func TestTheMostGlobals(t *testing.T) {
	g, want := New(), count(0, 1024)
	for k, v := range want {
		if k == 1023 {
			holds(t, "P10.1: all but one", g, want[:1023])
		}
		add(t, g, v, k == 0 || k == 1023)
	}
	holds(t, "P10.1: the most globals", g, want)
	for _, kind := range append(four(), noTypes()...) {
		checkAdd(t, g, val(kind, 1), true, api.ErrGlobalForm)
		checkAdd(t, g, val(kind, -1), false, api.ErrGlobalForm)
	}
	holds(t, "R5: behind one too many", g, want)
	want[0].Bits, want[1023].Bits = 7001, 7002
	checkSet(t, g, 0, want[0], api.OK)
	checkSet(t, g, 1023, want[1023], api.OK)
	checkSet(t, g, 1, val(want[1].Type, 8), api.ErrGlobalConst)
	checkSet(t, g, 1022, val(want[1022].Type, 8), api.ErrGlobalConst)
	checkSet(t, g, 1024, want[0], api.ErrGlobalForm)
	holds(t, "P10.1: the first and the last", g, want)
}

// What Add refused takes no place: as many may be added as ahead of it.
func TestRefusedOnesTakeNoPlace(t *testing.T) {
	g, want := New(), count(0, 1024)
	for _, v := range want {
		checkAdd(t, g, val(api.TypeI32, -1), true, api.ErrGlobalForm)
		checkAdd(t, g, api.Val{}, true, api.ErrGlobalForm)
		add(t, g, v, true)
	}
	holds(t, "R5: behind many that were refused", g, want)
}

func TestNilGlobals(t *testing.T) {
	var none *Globals
	// Wrong inputs too: ErrNil goes ahead of them.
	for _, v := range []api.Val{{}, val(api.TypeI32, 1), val(api.TypeI32, -1), val(api.TypeF64, -1)} {
		checkAdd(t, none, v, true, api.ErrNil)
		checkAdd(t, none, v, false, api.ErrNil)
		for _, k := range []int{0, 1, -1, math.MaxInt, math.MinInt} {
			checkGet(t, none, k, api.Val{}, api.ErrNil)
			checkSet(t, none, k, v, api.ErrNil)
		}
	}
	if got := none.All(); len(got) != 0 {
		t.Errorf("R3: All of nil: %v; want none", got)
	}
}

// No list that was answered is the globals' own, nor another answer's, behind its end neither.
func TestWhatIsAnsweredIsItsCallers(t *testing.T) {
	for _, size := range []int{0, 1, 3, 5, 8, 1023} {
		want := count(10, size)
		g := filled(t, true, want...)
		first, second := g.All(), g.All()
		clear(first[:cap(first)])
		_ = append(first, val(api.TypeI64, 99))
		_ = append(first[:0], val(api.TypeF32, 98))
		holds(t, "R4: behind a change of what was answered", g, want)
		if !slices.Equal(second, want) {
			t.Errorf("R4: one answer changed with another, of %d globals", size)
		}
		for k, v := range want {
			checkSet(t, g, k, val(v.Type, 500), api.OK)
		}
		add(t, g, val(api.TypeI32, 97), true)
		if !slices.Equal(second, want) {
			t.Errorf("R4: an answer changed with a Set, of %d globals", size)
		}
		if third := g.All(); size > 0 && third[size-1].Bits != 500 || third[size].Bits != 97 {
			t.Errorf("P10.1: All is not what the globals are now: %v", third)
		}
	}
}

// Globals are each their own, and may be made at one time.
func TestGlobalsAtOneTime(t *testing.T) {
	var all sync.WaitGroup
	for n := range 8 {
		all.Go(func() {
			g := New()
			for k := range 9 {
				checkAdd(t, g, val(api.TypeI64, n), k == n, api.OK)
			}
			checkSet(t, g, n, val(api.TypeI64, 100+n), api.OK)
			want := slices.Repeat([]api.Val{val(api.TypeI64, n)}, 9)
			want[n].Bits = 100 + n
			if got := g.All(); !slices.Equal(got, want) {
				t.Errorf("R5: globals %d: %v; want %v", n, got, want)
			}
		})
	}
	all.Wait()
}

// model is globals as a plain list of rows, by the words of the chapter.
type model []struct {
	v   api.Val
	mut bool
}

// mayBe tells by the chapter's words whether a value may be.
func mayBe(v api.Val) bool {
	return slices.Contains(four(), v.Type) && (wide(v.Type) || v.Bits >= 0 && v.Bits <= last32)
}

func (m *model) add(v api.Val, mut bool) api.Errno {
	if !mayBe(v) || len(*m) == 1024 {
		return api.ErrGlobalForm
	}
	*m = append(*m, struct {
		v   api.Val
		mut bool
	}{v, mut})
	return api.OK
}

func (m model) set(k int, v api.Val) api.Errno {
	switch {
	case k < 0 || k >= len(m) || !mayBe(v) || m[k].v.Type != v.Type:
		return api.ErrGlobalForm
	case !m[k].mut:
		return api.ErrGlobalConst
	}
	m[k].v = v
	return api.OK
}

func (m model) all() []api.Val {
	var out []api.Val
	for _, one := range m {
		out = append(out, one.v)
	}
	return out
}

// The globals beside a plain list: all calls in any order, many with values at the borders.
func TestBesideAList(t *testing.T) {
	r := row(10)
	kinds := append(slices.Repeat(four(), 4), 0, api.TypeNone)
	some := func() api.Val {
		return val(kinds[r.below(len(kinds))], edges()[r.below(len(edges()))].bits)
	}
	for _, adds := range []int{1, 5, 50} { // of a hundred steps
		g, m := New(), model{}
		for step := range 4000 {
			v, mut, k := some(), r.below(2) == 0, r.below(len(m)+4)-2
			if r.below(100) < adds {
				checkAdd(t, g, v, mut, m.add(v, mut))
			} else {
				checkSet(t, g, k, v, m.set(k, v))
			}
			if step%100 == 0 {
				holds(t, fmt.Sprintf("P10.1: step %d", step), g, m.all())
			}
			if t.Failed() {
				t.Fatalf("at step %d of %d globals: %v, %v, %d", step, len(m), v, mut, k)
			}
		}
		holds(t, "P10.1: behind all", g, m.all())
	}
}

// As many questions as a run may ask end soon, and take no memory.
func TestAMillionSets(t *testing.T) {
	g := New()
	for range 1024 {
		add(t, g, val(api.TypeI32, 0), true)
	}
	if taken := testing.AllocsPerRun(10, func() { g.Get(7); g.Set(7, val(api.TypeI32, 0)) }); taken != 0 {
		t.Fatalf("P10.1: Get and Set take memory %v times", taken)
	}
	for i := range 1000000 {
		if e := g.Set(i&1023, val(api.TypeI32, i)); e != api.OK {
			t.Fatalf("P10.1: Set at step %d: %d", i, e)
		}
		if v, e := g.Get(i & 1023); v != val(api.TypeI32, i) || e != api.OK {
			t.Fatalf("P10.1: Get at step %d: %v, %d", i, v, e)
		}
	}
}
