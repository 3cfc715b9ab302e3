package trace

import (
	"fmt"
	"math"
	"slices"
	"sync"
	"testing"

	"pelorus/api"
)

// last32 is the greatest number of 32 bits without sign.
const last32 = 1<<32 - 1

// four are the types that there are.
func four() []int { return []int{api.TypeI32, api.TypeI64, api.TypeF32, api.TypeF64} }

// noTypes are numbers that are none of the four.
func noTypes() []int {
	return []int{0, 1, -1, api.TypeNone, 123, 128, 112, 255, -api.TypeI32, 1<<8 + api.TypeI64, 1<<32 + api.TypeI32, math.MinInt, math.MaxInt}
}

// wide tells whether values of a type have 64 bits.
func wide(kind int) bool { return kind == api.TypeI64 || kind == api.TypeF64 }

// mayBe tells by chapter 10's words whether a value may be.
func mayBe(v api.Val) bool {
	return slices.Contains(four(), v.Type) && (wide(v.Type) || v.Bits >= 0 && v.Bits <= last32)
}

// val gives a value of a type.
func val(kind, bits int) api.Val { return api.Val{Type: kind, Bits: bits} }

// i32 gives a value of 32 bits.
func i32(bits int) api.Val { return val(api.TypeI32, bits) }

// answer gives an answer of these values.
func answer(vs ...api.Val) api.Answer { return api.Answer{Vals: vs} }

// heard gives what is written down of a call.
func heard(f int, args ...api.Val) api.Heard { return api.Heard{Func: f, Args: args} }

// results gives a type without parameters.
func results(kinds ...int) api.FuncType { return api.FuncType{Results: kinds} }

// count gives that many values in a row, of the four types in turn, from first on.
func count(first, size int) []api.Val {
	out := make([]api.Val, size)
	for i := range out {
		out[i] = val(four()[i%4], first+i)
	}
	return out
}

// typesOf gives the types of values.
func typesOf(vs []api.Val) []int {
	var out []int
	for _, v := range vs {
		out = append(out, v.Type)
	}
	return out
}

// made gives a host that is not nil.
func made(t *testing.T, as ...api.Answer) *Host {
	t.Helper()
	h := New(as)
	if h == nil {
		t.Fatal("P11.1: New: nil; want a host")
	}
	return h
}

// checkCall asks one Call.
func checkCall(t *testing.T, h *Host, f int, ft api.FuncType, args, want []api.Val, code api.Errno) {
	t.Helper()
	if got, e := h.Call(f, ft, args); !slices.Equal(got, want) || e != code {
		t.Errorf("P11.1: Call(%d, %v, %v): %v, %d; want %v, %d", f, ft, args, got, e, want, code)
	}
}

// same tells whether two calls are one.
func same(a, b api.Heard) bool { return a.Func == b.Func && slices.Equal(a.Args, b.Args) }

// holds asks how many answers are left, and what was written down.
func holds(t *testing.T, what string, h *Host, left int, want ...api.Heard) {
	t.Helper()
	if got := h.Left(); got != left {
		t.Errorf("%s: Left: %d; want %d", what, got, left)
	}
	if got := h.Trace(); !slices.EqualFunc(got, want, same) {
		t.Errorf("%s: Trace: %v; want %v", what, got, want)
	}
}

// row is a row of numbers.
type row uint64

func (r *row) below(n int) int {
	*r = *r*6364136223846793005 + 1442695040888963407
	return int(uint64(*r) >> 32 % uint64(n))
}

func TestNoAnswers(t *testing.T) {
	for _, h := range []*Host{New(nil), New([]api.Answer{}), {}} {
		if h == nil {
			t.Fatal("P11.1: New of none: nil; want a host")
		}
		holds(t, "P11.1: no answers", h, 0)
		checkCall(t, h, 0, results(), nil, nil, api.ErrTraceMissing)
		holds(t, "P11.1: behind one call", h, 0, heard(0))
		checkCall(t, h, 3, results(api.TypeI32), []api.Val{i32(4)}, nil, api.ErrTraceMissing)
		holds(t, "P11.1: behind two calls", h, 0, heard(0), heard(3, i32(4)))
	}
}

// Answers of none, one and more values, in their order; each is taken once.
func TestAnswersOneByOne(t *testing.T) {
	sizes := []int{1, 0, 2, 5, 0, 32, 3}
	var as []api.Answer
	for k, size := range sizes {
		as = append(as, answer(count(100*k, size)...))
	}
	h := made(t, as...)
	holds(t, "P11.1: ahead of all calls", h, len(sizes))
	var down []api.Heard
	for k, size := range sizes {
		want, args := count(100*k, size), count(7*k, k%3)
		checkCall(t, h, 10+k, results(typesOf(want)...), args, want, api.OK)
		down = append(down, heard(10+k, args...))
		holds(t, fmt.Sprint("P11.1: behind answer ", k), h, len(sizes)-k-1, down...)
	}
	for k := range 3 { // one call more, and again
		checkCall(t, h, k, results(), nil, nil, api.ErrTraceMissing)
		down = append(down, heard(k))
		holds(t, "P11.1: behind the last answer", h, 0, down...)
	}
}

// One value of each type, at the borders of 32 bits: what may be is answered, what may not is ErrTraceType.
func TestEachTypeAtTheEdges(t *testing.T) {
	edges := []int{0, 1, 1<<31 - 1, 1 << 31, last32 - 1, last32, 1 << 32, 1<<32 + 1, 1 << 62, math.MaxInt, -1, -2, -1 << 31, -1 << 32, math.MinInt}
	for _, kind := range four() {
		for k, bits := range edges {
			narrow := k < 6 // those ahead of 2^32
			h := made(t, answer(val(kind, bits)), answer(i32(8)))
			if narrow || wide(kind) {
				checkCall(t, h, 1, results(kind), nil, []api.Val{val(kind, bits)}, api.OK)
			} else {
				checkCall(t, h, 1, results(kind), nil, nil, api.ErrTraceType)
			}
			holds(t, "P11.1: one answer is taken", h, 1, heard(1))
			checkCall(t, h, 2, results(api.TypeI32), nil, []api.Val{i32(8)}, api.OK)
			holds(t, "P11.1: and the next", h, 0, heard(1), heard(2))
		}
	}
}

// An answer of another type than the one that was asked for, of all pairs.
func TestAnotherType(t *testing.T) {
	for _, asked := range append(four(), noTypes()...) {
		for _, given := range append(four(), noTypes()...) {
			v := val(given, 5)
			h := made(t, answer(v), answer())
			if asked == given && slices.Contains(four(), given) {
				checkCall(t, h, 0, results(asked), nil, []api.Val{v}, api.OK)
			} else {
				checkCall(t, h, 0, results(asked), nil, nil, api.ErrTraceType)
			}
			holds(t, "P11.1: one answer is taken", h, 1, heard(0))
			checkCall(t, h, 1, results(), nil, nil, api.OK)
		}
	}
}

// Too few values and too many, the others all right; also of a type with no results.
func TestAnotherCount(t *testing.T) {
	for size := range 7 {
		for asked := range 7 {
			vs := count(30, size)
			h := made(t, answer(vs...), answer(i32(9)))
			ft := results(typesOf(count(30, asked))...)
			if size == asked {
				checkCall(t, h, 4, ft, nil, vs, api.OK)
			} else {
				checkCall(t, h, 4, ft, nil, nil, api.ErrTraceType)
			}
			holds(t, "P11.1: one answer is taken", h, 1, heard(4))
			checkCall(t, h, 5, results(api.TypeI32), nil, []api.Val{i32(9)}, api.OK)
		}
	}
}

// One wrong value at any place refuses all of the answer.
func TestOneWrongValueAmongMore(t *testing.T) {
	right := count(50, 8)
	for k := range right {
		for _, v := range []api.Val{val(four()[(k+1)%4], 1), val(four()[(k+2)%4], 1), {}, val(right[k].Type+1<<32, 1), val(api.TypeNone, 1)} {
			wrong := slices.Clone(right)
			wrong[k] = v
			h := made(t, answer(wrong...), answer(right...))
			checkCall(t, h, k, results(typesOf(right)...), nil, nil, api.ErrTraceType)
			holds(t, "P11.1: the wrong answer is taken", h, 1, heard(k))
			checkCall(t, h, k, results(typesOf(right)...), nil, right, api.OK)
		}
		if !wide(right[k].Type) {
			beyond := slices.Clone(right)
			beyond[k].Bits = 1 << 32
			checkCall(t, made(t, answer(beyond...)), k, results(typesOf(right)...), nil, nil, api.ErrTraceType)
		}
	}
}

// The parameters are not asked: neither their number, nor the arguments' types, nor whether they may be.
func TestArgumentsAreOnlyWrittenDown(t *testing.T) {
	lists := [][]api.Val{nil, {}, {i32(1)}, {i32(-1)}, {val(0, 5), val(api.TypeF32, 1<<32)}, {val(math.MinInt, math.MaxInt)}, count(0, 40)}
	for _, params := range [][]int{nil, {api.TypeI32}, {api.TypeI64, api.TypeI64}, {0, -1}} {
		var as []api.Answer
		for k := range lists {
			as = append(as, answer(i32(k)))
		}
		h := made(t, as...)
		var down []api.Heard
		for k, args := range lists {
			checkCall(t, h, k, api.FuncType{Params: params, Results: []int{api.TypeI32}}, args, []api.Val{i32(k)}, api.OK)
			down = append(down, heard(k, args...))
		}
		holds(t, "P11.1: any arguments", h, 0, down...)
	}
}

func TestNumbersOfFunctions(t *testing.T) {
	h := made(t, answer(), answer(), answer(), answer(), answer())
	var down []api.Heard
	for k, f := range []int{0, 1, 255, 1 << 32, math.MaxInt} {
		for _, below := range []int{-1, -2, -1 << 31, -1 << 32, math.MinInt} {
			checkCall(t, h, below, results(), []api.Val{i32(k)}, nil, api.ErrTraceForm)
		}
		holds(t, "P11.1: nothing is written down nor taken of f below 0", h, 5-k, down...)
		checkCall(t, h, f, results(), nil, nil, api.OK)
		down = append(down, heard(f))
		holds(t, "P11.1: f from 0 on", h, 4-k, down...)
	}
}

// ErrTraceForm goes ahead of ErrTraceMissing and of ErrTraceType, and changes nothing; the others write down.
func TestWhichErrorGoesAhead(t *testing.T) {
	h := made(t, answer(i32(-1)), answer(i32(6)))
	checkCall(t, h, -1, results(), nil, nil, api.ErrTraceForm) // its answer would not fit
	checkCall(t, h, -1, results(api.TypeI64), nil, nil, api.ErrTraceForm)
	holds(t, "R5: behind ErrTraceForm", h, 2)
	checkCall(t, h, 0, results(api.TypeI32), []api.Val{i32(1)}, nil, api.ErrTraceType)
	holds(t, "P11.1: behind ErrTraceType", h, 1, heard(0, i32(1)))
	checkCall(t, h, -1, results(api.TypeI32), []api.Val{i32(2)}, nil, api.ErrTraceForm)
	checkCall(t, h, 1, results(api.TypeI32), []api.Val{i32(3)}, []api.Val{i32(6)}, api.OK)
	holds(t, "P11.1: the answer behind the wrong one", h, 0, heard(0, i32(1)), heard(1, i32(3)))
	checkCall(t, h, -1, results(), nil, nil, api.ErrTraceForm) // none is left
	holds(t, "R5: behind ErrTraceForm, none left", h, 0, heard(0, i32(1)), heard(1, i32(3)))
	// None left is told of a type, too, that no answer could fit.
	checkCall(t, h, 2, results(0), nil, nil, api.ErrTraceMissing)
	checkCall(t, h, 2, results(), nil, nil, api.ErrTraceMissing)
	holds(t, "P11.1: behind ErrTraceMissing", h, 0, heard(0, i32(1)), heard(1, i32(3)), heard(2), heard(2))
}

func TestNilHost(t *testing.T) {
	var none *Host
	for _, f := range []int{0, 1, -1, math.MinInt, math.MaxInt} {
		checkCall(t, none, f, results(), nil, nil, api.ErrNil)
		checkCall(t, none, f, results(api.TypeI32, 0), count(0, 3), nil, api.ErrNil)
	}
	holds(t, "R3: nil", none, 0)
}

// roomy gives values with room behind them, and the whole of that memory.
func roomy(vs ...api.Val) (list, whole []api.Val) {
	whole = append(slices.Clone(vs), count(9000, 4)...)
	return whole[:len(vs)], whole
}

// What is handed in stays as it is, behind its end too, and may be changed without the host's seeing it.
func TestWhatIsHandedInIsItsCallers(t *testing.T) {
	for size := range 4 {
		first, firstWhole := roomy(count(10, size)...)
		second, secondWhole := roomy(count(20, size)...)
		args, argsWhole := roomy(count(30, size)...)
		all := []api.Answer{{Vals: first}, {Vals: second}, {Vals: first}}
		ft := api.FuncType{Params: typesOf(args), Results: typesOf(first)}
		h := made(t, all[:2]...)
		checkCall(t, h, 1, ft, args, count(10, size), api.OK)
		h.Trace()
		for k, whole := range [][]api.Val{firstWhole, secondWhole, argsWhole} {
			if !slices.Equal(whole, append(count(10*k+10, size), count(9000, 4)...)) {
				t.Errorf("R4: what was handed in was changed: %v", whole)
			}
			clear(whole)
		}
		if !slices.Equal(ft.Params, typesOf(count(0, size))) || !slices.Equal(ft.Results, typesOf(count(0, size))) {
			t.Errorf("R4: a type was changed: %v", ft)
		}
		if &all[2].Vals[:1][0] != &firstWhole[0] {
			t.Error("R4: the room behind the answers was changed")
		}
		clear(all)
		checkCall(t, h, 2, ft, nil, count(20, size), api.OK)
		holds(t, "R4: behind a change of what was handed in", h, 0, heard(1, count(30, size)...), heard(2))
	}
}

// The lists of two answers, and of two calls, may be one list: each is its own in the host.
func TestOneListHandedInTwice(t *testing.T) {
	one := count(1, 3)
	h := made(t, answer(one...), api.Answer{Vals: one}, api.Answer{Vals: one[:2]})
	ft := results(typesOf(one)...)
	first, e := h.Call(0, ft, one)
	if e != api.OK {
		t.Fatalf("P11.1: Call: %d", e)
	}
	clear(first[:cap(first)])
	checkCall(t, h, 1, ft, one[:1], count(1, 3), api.OK)
	checkCall(t, h, 2, results(ft.Results[:2]...), first, count(1, 2), api.OK)
	holds(t, "R4: one list, many times", h, 0, heard(0, count(1, 3)...), heard(1, count(1, 1)...), heard(2, api.Val{}, api.Val{}, api.Val{}))
}

// spoil changes all of a list that was answered, and what is behind its end.
func spoil(vs []api.Val) {
	vs = vs[:cap(vs)]
	for k := range vs {
		vs[k] = val(-7, -7)
	}
}

// No list that was answered is the host's own, nor another answer's, nor another list's of one answer.
func TestWhatIsAnsweredIsItsCallers(t *testing.T) {
	for size := range 6 {
		vs := count(10, size)
		h := made(t, answer(vs...), answer(vs...), answer(vs...))
		ft := results(typesOf(vs)...)
		first, _ := h.Call(0, ft, vs)
		second, _ := h.Call(1, ft, first)
		spoil(first)
		if !slices.Equal(second, vs) {
			t.Errorf("R4: an answer changed with another: %v", second)
		}
		want := []api.Heard{heard(0, vs...), heard(1, vs...)}
		holds(t, "R4: behind a change of an answer", h, 1, want...)
		one, two := h.Trace(), h.Trace()
		spoil(one[0].Args)
		if !same(one[1], want[1]) {
			t.Errorf("R4: two lists of one answer are one: %v", one)
		}
		spoil(one[1].Args)
		clear(one[:cap(one)])
		_ = append(one, heard(77))
		_ = append(one[:0], heard(78))
		if !slices.EqualFunc(two, want, same) {
			t.Errorf("R4: a trace changed with another: %v", two)
		}
		holds(t, "R4: behind a change of a trace", h, 1, want...)
		checkCall(t, h, 2, ft, nil, vs, api.OK)
		if !slices.EqualFunc(two, want, same) {
			t.Errorf("R4: a trace changed with a call: %v", two)
		}
		holds(t, "P11.1: behind a third call", h, 0, append(want, heard(2))...)
	}
}

// What a host answered is not taken back: later calls leave it.
func TestAnswersStayBehindLaterCalls(t *testing.T) {
	var as []api.Answer
	for k := range 50 {
		as = append(as, answer(count(k, k%5)...))
	}
	h := made(t, as...)
	var got [][]api.Val
	for k, a := range as {
		vs, e := h.Call(k, results(typesOf(a.Vals)...), a.Vals)
		if e != api.OK {
			t.Fatalf("P11.1: Call %d: %d", k, e)
		}
		got = append(got, vs)
		if h.answers[k] != nil {
			t.Errorf("R4: the host still holds answer %d, which it gave away", k)
		}
	}
	for k := range got {
		if !slices.Equal(got[k], count(k, k%5)) {
			t.Errorf("R4: answer %d: %v", k, got[k])
		}
	}
}

// Hosts are each their own, also of one list, and may be made at one time.
func TestHostsAtOneTime(t *testing.T) {
	as := []api.Answer{answer(i32(1)), answer(i32(2), i32(3)), answer()}
	var all sync.WaitGroup
	for n := range 8 {
		all.Go(func() {
			h := New(as)
			checkCall(t, h, n, results(api.TypeI32), []api.Val{i32(n)}, []api.Val{i32(1)}, api.OK)
			checkCall(t, h, n+1, results(api.TypeI32, api.TypeI32), nil, []api.Val{i32(2), i32(3)}, api.OK)
			holds(t, fmt.Sprint("R5: host ", n), h, 1, heard(n, i32(n)), heard(n+1))
		})
	}
	all.Wait()
}

// model is a host as a plain list of answers left and of calls, by the words of the chapter.
type model struct {
	left  []api.Answer
	calls []api.Heard
}

func (m *model) call(f int, ft api.FuncType, args []api.Val) ([]api.Val, api.Errno) {
	if f < 0 {
		return nil, api.ErrTraceForm
	}
	m.calls = append(m.calls, heard(f, args...))
	if len(m.left) == 0 {
		return nil, api.ErrTraceMissing
	}
	next := m.left[0].Vals
	m.left = m.left[1:]
	if len(next) != len(ft.Results) {
		return nil, api.ErrTraceType
	}
	for k, v := range next {
		if v.Type != ft.Results[k] || !mayBe(v) {
			return nil, api.ErrTraceType
		}
	}
	return next, api.OK
}

// some gives a few values, most of which may be.
func some(r *row) []api.Val {
	bits := []int{0, 1, last32, 5, 7, 1 << 31, 1 << 32, -1}
	var out []api.Val
	for range r.below(4) {
		kind := four()[r.below(4)]
		if r.below(20) == 0 {
			kind = noTypes()[r.below(len(noTypes()))]
		}
		out = append(out, val(kind, bits[r.below(len(bits))]))
	}
	return out
}

// A host beside the model: types that fit the next answer, and some that do not.
func TestBesideAModel(t *testing.T) {
	r := row(11)
	codes := map[api.Errno]int{}
	for range 300 {
		m := &model{}
		for range r.below(20) {
			m.left = append(m.left, answer(some(&r)...))
		}
		h := made(t, m.left...)
		for range 25 {
			f, ft, args := r.below(40)-4, results(typesOf(some(&r))...), some(&r)
			if len(m.left) > 0 && r.below(4) > 0 {
				ft = results(typesOf(m.left[0].Vals)...)
			}
			want, code := m.call(f, ft, args)
			codes[code]++
			checkCall(t, h, f, ft, args, want, code)
			holds(t, "P11.1: beside the model", h, len(m.left), m.calls...)
			if t.Failed() {
				return
			}
		}
	}
	for _, code := range []api.Errno{api.OK, api.ErrTraceForm, api.ErrTraceMissing, api.ErrTraceType} {
		if codes[code] < 100 {
			t.Errorf("the model came to %d only %d times", code, codes[code])
		}
	}
}

// As many calls as a run has fuel for, with as many answers, end soon; Left and Trace tell all of them.
func TestAMillionCalls(t *testing.T) {
	as := make([]api.Answer, api.MaxFuel)
	for k := range as {
		as[k] = answer(i32(k))
	}
	h := made(t, as...)
	ft, args := results(api.TypeI32), []api.Val{i32(0)}
	for k := range as {
		args[0].Bits = k
		vs, e := h.Call(k, ft, args)
		if e != api.OK || len(vs) != 1 || vs[0] != i32(k) || h.Left() != len(as)-k-1 {
			t.Fatalf("P11.1: call %d: %v, %d, %d left", k, vs, e, h.Left())
		}
	}
	checkCall(t, h, 5, ft, args, nil, api.ErrTraceMissing)
	all := h.Trace()
	if len(all) != len(as)+1 {
		t.Fatalf("P11.1: Trace tells %d calls; want %d", len(all), len(as)+1)
	}
	for k := range as {
		if !same(all[k], heard(k, i32(k))) {
			t.Fatalf("P11.1: Trace tells %v of call %d", all[k], k)
		}
	}
}
