package instr

import (
	"fmt"
	"slices"
	"testing"

	"pelorus/api"
)

// step is what All gives at one time.
type step struct {
	depth int
	instr api.Instr
}

// steps gives all that All is to give, by the chapter's words.
func steps(is []api.Instr, depth int) []step {
	var out []step
	for _, i := range is {
		out = append(out, step{depth, i})
		out = append(out, steps(i.Body, depth+1)...)
		out = append(out, steps(i.Else, depth+1)...)
	}
	return out
}

// checkAll asks All and Count of a list.
func checkAll(t *testing.T, what string, is []api.Instr) {
	t.Helper()
	want := steps(is, 0)
	want = want[:min(len(want), 8193)]
	if n := Count(is); n != len(want) {
		t.Errorf("P14.2: Count of %s: %d; want %d", what, n, len(want))
	}
	n := 0
	for depth, i := range All(is) {
		if n == len(want) || depth != want[n].depth || !sameInstr(i, want[n].instr) {
			t.Fatalf("P14.2: All of %s: step %d: %d, Op %d", what, n, depth, i.Op)
		}
		n++
	}
	if n != len(want) {
		t.Errorf("P14.2: All of %s: %d; want %d", what, n, len(want))
	}
}

// The row of All with its depths, written out.
func TestAllRow(t *testing.T) {
	is := []api.Instr{
		{Op: 65, Bits: 3},
		{Op: 4, Type: 64, Body: []api.Instr{{Op: 1}, {Op: 2, Type: 127, Body: []api.Instr{{Op: 0}}}, {Op: 26}}, Else: []api.Instr{{Op: 3, Type: 64}, {Op: 27}}},
		{Op: 14, Labels: []int{4, 5}},
		{Op: 15},
	}
	got := ""
	for depth, i := range All(is) {
		got += fmt.Sprint(depth, ":", i.Op, " ")
	}
	if want := "0:65 0:4 1:1 1:2 2:0 1:26 1:3 1:27 0:14 0:15 "; got != want {
		t.Errorf("P14.2: All: %s; want %s", got, want)
	}
	if n := Count(is); n != 10 {
		t.Errorf("P14.2: Count: %d", n)
	}
	checkAll(t, "the row", is)
}

func TestAllOfNone(t *testing.T) {
	for _, is := range [][]api.Instr{nil, {}, make([]api.Instr, 0, 5)} {
		for depth, i := range All(is) {
			t.Errorf("P14.2: All of none: %d, %v", depth, i)
		}
		if n := Count(is); n != 0 {
			t.Errorf("P14.2: Count of none: %d", n)
		}
	}
}

// Lists of all kinds, also such as Put refuses: what an instruction holds is walked over whatever its Op is.
func TestAllKinds(t *testing.T) {
	r := numbers(8)
	for range 500 {
		checkAll(t, "a list", r.list(12, 0))
	}
	checkAll(t, "other Ops", []api.Instr{
		{Op: -7, A: -1, B: 1 << 40, Bits: 9, Type: -3, Labels: []int{-5}, Body: many(2), Else: many(3)},
		{Op: 1, Body: []api.Instr{{Op: 5, Else: []api.Instr{{Op: 14}}}}},
		{Op: 2, Type: 64, Else: many(2)},
		{Op: 14, Labels: make([]int, 3000)},
	})
	checkAll(t, "blocks within one another", within(32, many(5)))
	checkAll(t, "blocks too deep", within(40, many(5)))
	checkAll(t, "blocks much too deep", blocks(2, 400, many(5)))
	checkAll(t, "Elses much too deep", elses(400, many(5)))
}

// No more than MaxBody and one of them, each with all that it holds.
func TestAllMost(t *testing.T) {
	for _, n := range []int{8191, 8192, 8193, 8194, 20000} {
		checkAll(t, fmt.Sprint(n), many(n))
		checkAll(t, fmt.Sprint(n, " in a block"), blocks(2, 1, many(n-1)))
		checkAll(t, fmt.Sprint(n, " in blocks"), blocks(3, 9, many(n-9)))
		checkAll(t, fmt.Sprint(n, " in an Else"), elses(3, many(n-3)))
		checkAll(t, fmt.Sprint(n, " spread"), spread(n))
		checkAll(t, fmt.Sprint(n, " ahead of a block"), append(many(n-2), blocks(2, 1, many(9000))...))
	}
}

// All may be left ahead of its end, anywhere, and gone through again.
func TestAllLeft(t *testing.T) {
	is := within(7, []api.Instr{{Op: 14, Labels: []int{1}}, {Op: 2, Type: 64, Body: many(2)}})
	want := steps(is, 0)
	seq := All(is)
	for stop := range len(want) {
		n := 0
		for depth, i := range seq {
			if depth != want[n].depth || !sameInstr(i, want[n].instr) {
				t.Fatalf("P14.2: step %d of %d: %d, %v", n, stop, depth, i)
			}
			if n == stop {
				break
			}
			n++
		}
		if n != stop {
			t.Errorf("P14.2: left at %d, not at %d", n, stop)
		}
	}
	// A function that tells to stop is not called once more, whatever list it is in.
	for stop := range len(want) {
		calls := 0
		seq(func(int, api.Instr) bool {
			calls++
			return calls <= stop
		})
		if calls != stop+1 {
			t.Errorf("P14.2: %d calls; want %d", calls, stop+1)
		}
	}
}

// What All gives shares no memory with the list, nor one with another: it may be changed while All goes on, the list too.
func TestAllSharesNothing(t *testing.T) {
	is := within(6, []api.Instr{{Op: 14, Labels: []int{1, 2, 3}}, {Op: 4, Type: 64, Body: []api.Instr{{Op: 14, Labels: []int{4}}}, Else: many(2)}})
	before := twin(is)
	want := steps(before, 0)
	seq := All(is)
	for range 2 {
		n := 0
		for depth, i := range seq {
			if depth != want[n].depth || !sameInstr(i, want[n].instr) {
				t.Fatalf("R4: step %d: %d, %v", n, depth, i)
			}
			spoil([]api.Instr{i})
			n++
		}
		if n != len(want) || !same(is, before) {
			t.Fatalf("R4: %d steps, the list: %v", n, is)
		}
	}
	var kept []step
	n := 0
	for depth, i := range seq {
		kept = append(kept, step{depth, i})
		if n == 3 {
			spoil(is)
		}
		n++
	}
	for k, one := range kept {
		if one.depth != want[k].depth || !sameInstr(one.instr, want[k].instr) {
			t.Fatalf("R4: step %d: %v", k, one)
		}
	}
	if len(kept) != len(want) {
		t.Errorf("R4: %d steps", len(kept))
	}
}

// Two walks over one row at one time do not tell of each other.
func TestAllTwice(t *testing.T) {
	is := within(4, many(3))
	want := steps(is, 0)
	seq := All(is)
	n := 0
	for range seq {
		k := 0
		for depth, i := range seq {
			if depth != want[k].depth || !sameInstr(i, want[k].instr) {
				t.Fatalf("R5: step %d: %d, %v", k, depth, i)
			}
			k++
		}
		n++
	}
	if n != len(want) {
		t.Errorf("R5: %d steps", n)
	}
}

// checkEndless asks of a list without an end that All ends, with these Ops in turn, each at the depth that is told.
func checkEndless(t *testing.T, what string, is []api.Instr, depthOf func(n int) int, ops ...int) {
	t.Helper()
	if n := Count(is); n != 8193 {
		t.Errorf("P14.2: Count of %s: %d", what, n)
	}
	n := 0
	for depth, i := range All(is) {
		if depth != depthOf(n) || i.Op != ops[n%len(ops)] {
			t.Fatalf("P14.2: All of %s: step %d: %d, Op %d", what, n, depth, i.Op)
		}
		n++
	}
	if n != 8193 {
		t.Errorf("P14.2: All of %s: %d", what, n)
	}
}

// Lists that hold themselves, such as are great by what they share, and very deep ones: R1.
func TestAllEndless(t *testing.T) {
	each := func(n int) int { return n }
	loop := make([]api.Instr, 1)
	loop[0] = api.Instr{Op: 3, Type: 64, Body: loop}
	checkEndless(t, "a list in itself", loop, each, 3)
	other := make([]api.Instr, 1)
	other[0] = api.Instr{Op: 4, Type: 64, Else: other}
	checkEndless(t, "a list in its own Else", other, each, 4)
	two := make([]api.Instr, 3)
	two[0], two[2] = api.Instr{Op: 1}, api.Instr{Op: 15}
	two[1] = api.Instr{Op: 4, Type: 64, Body: two, Else: two}
	checkEndless(t, "a list twice in itself", two, func(n int) int { return n / 2 }, 1, 4)
	checkEndless(t, "nested blocks", blocks(2, 9000, nil), each, 2)
	checkEndless(t, "deeply nested blocks", blocks(2, 1<<20, nil), each, 2)
	checkEndless(t, "doubled blocks", doubled(9000), each, 2)
	long := slices.Repeat([]api.Instr{{Op: 14, Labels: make([]int, 1<<20)}}, 9000)
	checkEndless(t, "many great tables", long, func(int) int { return 0 }, 14)
	checkEndless(t, "a list in itself, behind many", append(many(8193), loop...), func(int) int { return 0 }, 1)
	if n := Count(doubled(30)); n != 8193 {
		t.Errorf("P14.2: Count of doubled blocks: %d", n)
	}
}

// checkNested asks All of blocks in one another, with a list in the innermost: each of the first ones comes with all that it
// holds, however much a whole row would be.
func checkNested(t *testing.T, deep int, inner []api.Instr, stop int) {
	t.Helper()
	at, n := blocks(2, deep, inner), 0
	for depth, i := range All(at) {
		if depth != n || !sameInstr(i, at[0]) {
			t.Fatalf("P14.2: %d blocks in one another: step %d: %d, Op %d, %d in its Body", deep, n, depth, i.Op, len(i.Body))
		}
		at = at[0].Body
		if n++; n == stop {
			break
		}
	}
	if n != stop {
		t.Errorf("P14.2: %d blocks in one another: %d steps; want %d", deep, n, stop)
	}
}

func TestAllHeld(t *testing.T) {
	for _, stop := range []int{1, 2, 64, 300} {
		checkNested(t, 4900, many(1500), stop)
	}
	checkNested(t, 6193, nil, 6193)
	checkNested(t, 8193, nil, 500)
	checkNested(t, 8000, many(9000), 300)
	checkNested(t, 40000, nil, 64)
	checkNested(t, 1, many(1<<20), 1)
	deep := elses(4900, many(1500))
	for _, i := range All(deep) {
		if !sameInstr(i, deep[0]) {
			t.Errorf("P14.2: 4900 Elses in one another: %d in the first one's", len(i.Else))
		}
		break
	}
}

// What stands ahead of something beyond all bounds comes with all that it holds; what stands behind it comes too.
func TestAllAheadOfGreat(t *testing.T) {
	loop := make([]api.Instr, 1)
	loop[0] = api.Instr{Op: 3, Type: 64, Body: loop}
	small := within(3, []api.Instr{{Op: 14, Labels: []int{1, 2}}})
	want := steps(small, 0)
	for what, great := range map[string][]api.Instr{
		"a list in itself": loop,
		"doubled blocks":   doubled(30),
		"deep blocks":      blocks(2, 1<<17, nil),
	} {
		n := 0
		for depth, i := range All(append(twin(small), great...)) {
			if n < len(want) && (depth != want[n].depth || !sameInstr(i, want[n].instr)) || n >= len(want) && i.Op != great[0].Op && i.Op != 2 && i.Op != 1 {
				t.Fatalf("P14.2: ahead of %s: step %d: %d, Op %d", what, n, depth, i.Op)
			}
			n++
		}
		if n != 8193 {
			t.Errorf("P14.2: ahead of %s: %d steps", what, n)
		}
	}
}

// Where copies would be beyond all bounds, instructions come with their numbers all the same.
func TestAllGreat(t *testing.T) {
	loop := make([]api.Instr, 1)
	loop[0] = api.Instr{Op: 3, A: 1, B: 2, Bits: 3, Type: 4, Labels: []int{5}, Body: loop}
	for depth, i := range All(loop) {
		if i.Op != 3 || i.A != 1 || i.B != 2 || i.Bits != 3 || i.Type != 4 {
			t.Fatalf("P14.2: step %d: %v", depth, i.Op)
		}
	}
	tables := slices.Repeat([]api.Instr{{Op: 14, A: 1, B: 2, Bits: 3, Type: 4, Labels: make([]int, 1<<20)}}, 100)
	n := 0
	for depth, i := range All(tables) {
		if depth != 0 || !sameInstr(i, tables[n]) {
			t.Fatalf("P14.2: step %d: %d, Op %d", n, depth, i.Op)
		}
		n++
	}
	if n != 100 {
		t.Errorf("P14.2: %d steps", n)
	}
}

// A range is given no more than it may be: from the first one on that is too much, instructions come without their lists.
func TestGivenMost(t *testing.T) {
	two := api.Instr{Op: 2, Type: 64, Body: many(1)}
	table := api.Instr{Op: 14, Labels: []int{1, 2, 3}}
	s := scale{left: 2*instrBytes + instrBytes + 3*labelBytes}
	for k, c := range []struct{ i, want api.Instr }{
		{two, two}, {table, table}, {two, api.Instr{Op: 2, Type: 64}}, {table, api.Instr{Op: 14}}, {api.Instr{Op: 1}, api.Instr{Op: 1}},
	} {
		if got := s.give(&c.i); !sameInstr(got, c.want) {
			t.Errorf("R1: row %d: %v; want %v", k, got, c.want)
		}
	}
}

// Count and All of lists that Put takes and Get gives agree.
func TestCountBack(t *testing.T) {
	r := numbers(21)
	for range 500 {
		is := r.list(12, 0)
		text, _ := Put(is)
		back, _, _ := Get(text, 0)
		if want := len(steps(is, 0)); Count(is) != want || Count(back) != want {
			t.Fatalf("P14.3: Count: %d, %d; want %d", Count(is), Count(back), want)
		}
	}
}
