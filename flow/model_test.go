package flow

import (
	"reflect"
	"slices"
	"strings"
	"testing"

	"pelorus/api"
)

// rnd is a row of numbers.
type rnd uint64

// next gives a number from 0 on, below n.
func (r *rnd) next(n int) int {
	*r = *r*6364136223846793005 + 1442695040888963407
	return int(uint64(*r) >> 33 % uint64(n))
}

// holds asks a body of Check and of the model, and tells whether it is well typed.
func holds(t *testing.T, m api.Module, ft api.FuncType, words []string, is []api.Instr) bool {
	t.Helper()
	c := api.Code{Body: is}
	most, e := Check(m, ft, c)
	if n, code := modelled(m, ft, c); most != n || e != code {
		t.Fatalf("P18.1: %v: %s: %d, %d; want %d, %d", ft, strings.Join(words, " "), most, e, n, code)
	}
	return e == api.OK
}

// All bodies of a few words are held against the model.
func TestAllShort(t *testing.T) {
	words := strings.Fields("i l drop select dead br:0 br:1 brif:0 table:0,1 return block:i loop:i if:i block else end #69 #80 #124")
	counts := map[bool]int{}
	var all func(front []string, left int)
	all = func(front []string, left int) {
		if is, ok := read(front); ok {
			for _, ft := range []string{">", ">i"} {
				counts[holds(t, home(), typed(ft), front, is)]++
			}
		}
		if left > 0 {
			for _, word := range words {
				all(append(slices.Clone(front), word), left-1)
			}
		}
	}
	all(nil, 4)
	if counts[true] < 1000 || counts[false] < 10000 {
		t.Errorf("the test: %v", counts)
	}
}

// insert puts words into a body's, some of them around others.
func (r *rnd) insert(words []string) []string {
	rows := []string{
		"i", "l", "f", "d", "drop", "select", "dead", "nop", "return", "size drop", "i drop", "l drop", "i i select", "i i #106 drop",
		"l i select", "br:0", "br:1", "br:2", "i brif:0", "brif:1", "i table:0,1", "table:0,0", "call:0", "call:1", "call:2 drop",
		"i l call:4 drop", "i indirect:1", "indirect:0", "get:0", "get:1 drop", "set:2", "i set:0", "tee:3", "gget:1", "gget:2 drop",
		"gset:1", "gset:3", "i gset:2", "#40:2", "i #45:1 drop", "#54:1", "i l #55:3", "#69", "#80", "#106", "#124", "#139 drop",
		"#167", "#183", "grow", "get:7", "gget:9", "block . end", "block:i . end", "loop . end", "loop:l . end drop", "i if . end",
		"i if:i . else i end", "if:l l else . end", "i if else . end", "block:d . end drop", "i if:i . end",
	}
	front, back, _ := strings.Cut(rows[r.next(len(rows))], ".")
	from := r.next(len(words) + 1)
	to := from
	if back != "" {
		to += r.next(len(words) + 1 - from)
	}
	return slices.Concat(words[:from], strings.Fields(front), words[from:to], strings.Fields(back), words[to:])
}

// valid gives a body of a function of "ilfd>" that is well typed by the model.
func (r *rnd) valid() []api.Instr {
	var words []string
	for range 60 {
		more := r.insert(words)
		is, ok := read(more)
		if !ok {
			continue
		}
		if _, e := modelled(home(), typed("ilfd>"), api.Code{Body: is}); e == api.OK {
			words = more
		}
	}
	is, _ := read(words)
	return is
}

// Bodies that grow at random, each well typed but for what was put in last, are held against the model.
func TestRandom(t *testing.T) {
	r := rnd(18)
	m := home()
	counts := map[bool]int{}
	for range 400 {
		ft := typed([]string{"ilfd>", "ilfd>i", "ilfd>d", "dfli>l"}[r.next(4)])
		var words []string
		for range 100 {
			more := r.insert(words)
			if r.next(4) == 0 {
				more = r.insert(more)
			}
			is, ok := read(more)
			if !ok || len(more) > 150 {
				continue
			}
			before := copiedInstrs(is)
			good := holds(t, m, ft, more, is)
			counts[good]++
			if good {
				words = more
			}
			if !reflect.DeepEqual(is, before) {
				t.Fatalf("R4: %v", words)
			}
		}
	}
	if counts[true] < 2000 || counts[false] < 10000 {
		t.Errorf("the test: %v", counts)
	}
	if !reflect.DeepEqual(m, home()) {
		t.Error("R4: the module is not as it was")
	}
}
