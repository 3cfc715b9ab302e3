package flow

import (
	"slices"
	"strconv"
	"strings"
	"testing"

	"pelorus/api"
	"pelorus/instr"
)

// repeated gives an instruction so many times.
func repeated(n int, i api.Instr) []api.Instr { return slices.Repeat([]api.Instr{i}, n) }

// As many instructions as a body may have and one more, in one list and in blocks.
func TestMaxBody(t *testing.T) {
	one, drop := api.Instr{Op: api.OpI64Const}, api.Instr{Op: api.OpDrop}
	values := slices.Concat(repeated(4096, one), repeated(4096, drop))
	asks(t, home(), typed(">"), api.Code{Body: values}, 4096, "4096 values at one time")
	asks(t, home(), typed(">"), api.Code{Body: append([]api.Instr{{Op: 1}}, values...)}, wrongForm, "one more")
	for _, n := range []int{8191, 8192, 8193, 8194, 16384, 100000} {
		what := strconv.Itoa(n) + " instructions"
		want := func(ok int) int { return either(n <= 8192, ok, wrongForm) }
		asks(t, home(), typed(">"), api.Code{Body: repeated(n, api.Instr{Op: 1})}, want(0), what)
		in := api.Instr{Op: api.OpBlock, Type: 64, Body: repeated(n-1, api.Instr{Op: 1})}
		asks(t, home(), typed(">"), api.Code{Body: []api.Instr{in}}, want(0), what+" with a block")
		both := api.Instr{Op: api.OpIf, Type: 64, Body: repeated(n/2-2, api.Instr{Op: 1}), Else: repeated(n-n/2, api.Instr{Op: 1})}
		asks(t, home(), typed(">"), api.Code{Body: []api.Instr{{Op: api.OpI32Const}, both}}, want(1), what+" with an if")
		// It goes ahead of all that a walk finds.
		asks(t, home(), typed(">"), api.Code{Body: repeated(n, drop)}, want(wrongUnder), what+" that find no value")
	}
}

// As many locals as there may be and one more; parameters are not counted.
func TestMaxLocals(t *testing.T) {
	for _, letter := range []string{"i", "l", "f", "d"} {
		for _, params := range []string{"", "i", strings.Repeat("d", 32)} {
			for _, n := range []int{0, 1, 255, 256, 257, 258, 512, 1024, 65536} {
				what := strconv.Itoa(n) + " locals"
				last := strconv.Itoa(len(params) + n - 1)
				c := api.Code{Locals: kindsOf(strings.Repeat(letter, n))}
				want := func(ok int) int { return either(n <= 256, ok, wrongForm) }
				asks(t, home(), typed(params+">"), c, want(0), what)
				c.Body = body("get:" + strconv.Itoa(len(params)+n) + " drop")
				asks(t, home(), typed(params+">"), c, want(wrongIndex), what+", one more")
				if n > 0 {
					c.Body = body("get:" + last + " tee:" + last + " set:" + last)
					asks(t, home(), typed(params+">"), c, want(1), what+", the last")
					c.Body = body("get:" + last)
					asks(t, home(), typed(params+">"+letter), c, want(1), what+", the last as a result")
				}
			}
		}
	}
	// As many parameters as there may be, and one more.
	asks(t, home(), typed(strings.Repeat("d", 32)+">d"), api.Code{Body: body("get:31")}, 1, "32 parameters")
	asks(t, home(), typed(strings.Repeat("d", 33)+">d"), api.Code{Body: body("get:31")}, wrongForm, "33 parameters")
}

// Of each load and store the alignment at its bound, above it, and so great that 2^A wraps.
func TestAlignments(t *testing.T) {
	for op := 40; op <= 62; op++ {
		params, results, _ := strings.Cut(shape(op), ">")
		great := []int{4, 5, 8, 31, 32, 33, 62, 63, 64, 65, 66, 67, 127, 128, 255, 256, 1 << 16, 1<<16 + 1, 1 << 31, 1<<31 + 1, 1<<32 - 64, 1<<32 - 1}
		for _, a := range append([]int{0, 1, 2, 3}, great...) {
			word := "#" + strconv.Itoa(op) + ":" + strconv.Itoa(a)
			want := func(ok int) int { return either(a <= size(op), ok, wrongAlign) }
			for _, offset := range []string{":0", ":1", ":65536", ":2147483648", ":4294967295"} {
				rows(t, home(), []row{{">", "", spaced(params) + " " + word + offset + drops(len(results)), want(len(params))}})
			}
			rows(t, home(), []row{
				{">", "", word, want(wrongUnder)},
				{">", "", "l " + word, want(either(params == "il", wrongUnder, wrongType))},
				{">", "", "dead " + word + drops(len(results)), want(len(results))},
			})
		}
	}
}

// Of two errors in one instruction the one that comes first in the document's row.
func TestRowOfErrors(t *testing.T) {
	bare := api.Module{Types: []api.FuncType{{}, typed("i>")}}
	for _, before := range []string{"", "l ", "i ", "f f f "} {
		rows(t, bare, []row{
			// The index goes ahead of the alignment, of mut, of a label and of the values.
			{">", "", before + "#40:3", wrongIndex},
			{">", "", before + "#62:9", wrongIndex},
			{">", "", before + "size", wrongIndex},
			{">", "", before + "grow", wrongIndex},
			{">", "", before + "indirect:1", wrongIndex},
			{">", "", before + "call:0", wrongIndex},
			{">", "", before + "get:0", wrongIndex},
			{">", "", before + "set:0", wrongIndex},
			{">", "", before + "tee:0", wrongIndex},
			{">", "", before + "gget:0", wrongIndex},
			{">", "", before + "gset:0", wrongIndex},
		})
		rows(t, home(), []row{
			{">", "", before + "indirect:5", wrongIndex},
			{">", "", before + "gset:6", wrongIndex},
			// The alignment, mut, a label go ahead of the values.
			{">", "", before + "#40:3", wrongAlign},
			{">", "", before + "#55:4", wrongAlign},
			{">", "", before + "gset:0", wrongMut},
			{">", "", before + "gset:3", wrongMut},
			{">d", "", before + "br:1", wrongLabel},
			{">d", "", before + "brif:1", wrongLabel},
			{">d", "", before + "table:1", wrongLabel},
			{">d", "", before + "table:0,1", wrongLabel},
			{">d", "", before + "table:1,0", wrongLabel},
			// All labels are asked for, then their types, then the values.
			{">d", "", "block " + before + "table:0,1,2 end", wrongLabel},
			{">d", "", "block " + before + "table:0,2,1 end", wrongLabel},
			{">d", "", "block " + before + "table:2,0,1 end", wrongLabel},
			{">d", "", "block " + before + "table:0,1 end", wrongType},
			{">d", "", "block " + before + "table:1,0 end", wrongType},
			{">d", "", "block " + before + "table:0,1,0 end", wrongType},
			{">d", "", "block " + before + "table:1,1,0,1 end", wrongType},
			{">d", "", "block " + before + "table:0,0,0,1 end", wrongType},
		})
	}
	rows(t, home(), []row{
		// Of the values the topmost is asked first.
		{">", "", "l #106", wrongType},
		{">", "", "i #106", wrongUnder},
		{">", "", "l i #106", wrongType},
		{">", "", "l l #106", wrongType},
		{">i", "", "l brif:0", wrongType},
		{">i", "", "i brif:0", wrongUnder},
		{">i", "", "l i brif:0", wrongType},
		{">i", "", "i table:0", wrongUnder},
		{">i", "", "l table:0", wrongType},
		{">", "", "i indirect:0", wrongUnder},
		{">", "", "l indirect:0", wrongType},
		{">", "", "i i indirect:0", wrongType},
		{">", "", "l i indirect:0", wrongUnder},
		{">", "", "l select", wrongType},
		{">", "", "i select", wrongUnder},
		{">", "", "l i select", wrongUnder},
		{">", "", "f l i select", wrongType},
		// At an end: the result, then what is left.
		{">i", "", "l", wrongType},
		{">i", "", "l l", wrongType},
		{">i", "", "i l", wrongType},
		{">i", "", "l i", wrongRest},
		{">i", "", "", wrongUnder},
		{">", "", "i", wrongRest},
		{">", "", "block:i l l end", wrongType},
		{">", "", "block:i l i end", wrongRest},
		// An if's Body, then that it has no Else, then what is behind.
		{">", "", "i if:i end", wrongUnder},
		{">", "", "i if:i l end", wrongType},
		{">", "", "i if:i i i end", wrongRest},
		{">", "", "i if:i br:9 end", wrongLabel},
		{">", "", "i if:i i end drop drop", wrongType},
		{">", "", "i if:i i end br:9", wrongType},
		{">", "", "l if:i i end", wrongType},
		{">", "", "if:i i end", wrongUnder},
		{">", "", "i if:i get:0 else br:9 end", wrongIndex},
		{">", "", "i if:i br:9 else get:0 end", wrongLabel},
		{">", "", "if br:9 end", wrongUnder},
		// What comes first in the walk.
		{">", "", "get:0 br:9", wrongIndex},
		{">", "", "br:9 get:0", wrongLabel},
		{">", "", "dead br:9 i", wrongLabel},
		{">", "", "block get:0 end br:9", wrongIndex},
		{">", "", "block i end br:9", wrongRest},
		{">", "", "block:i end br:9", wrongUnder},
		{">", "", "block block i end get:0 end", wrongRest},
		{">", "", "gset:0 drop", wrongMut},
		{">", "", "drop gset:0", wrongUnder},
	})
}

// Labels at each depth: the outermost one, and one more.
func TestLabelDepths(t *testing.T) {
	for _, word := range []string{"block", "loop", "i if", "i if nop else"} {
		for depth := range api.MaxNest + 1 {
			front, back := strings.Repeat(word+" ", depth), strings.Repeat(" end", depth)
			most := min(depth, strings.Count(word, "i if"))
			for _, k := range []int{0, 1, depth - 1, depth, depth + 1, depth + 2, 32, 33, 255, 256, 1 << 16, 1 << 31, 1<<32 - 1} {
				if k < 0 {
					continue
				}
				want := func(ok int) int { return either(k <= depth, ok, wrongLabel) }
				label := strconv.Itoa(k)
				rows(t, home(), []row{
					{">", "", front + "br:" + label + back, want(most)},
					{">", "", front + "i brif:" + label + back, want(1)},
					{">", "", front + "i table:" + label + back, want(1)},
					{">", "", front + "i table:0,0," + label + back, want(1)},
					{">", "", front + "i table:" + label + ",0,0" + back, want(1)},
				})
				if k == depth {
					rows(t, home(), []row{
						{">l", "", front + "l br:" + label + back + " l", 1},
						{">l", "", front + "f br:" + label + back + " l", wrongType},
						{">l", "", front + "br:" + label + back + " l", wrongUnder},
					})
				}
			}
		}
	}
}

// Labels of OpBrTable of unlike types at each place; a loop's, of a result, is like that of a block without.
func TestUnlikeLabels(t *testing.T) {
	for n := 1; n <= 6; n++ {
		for unlike := range n {
			labels := slices.Repeat([]string{"0"}, n)
			labels[unlike] = "1"
			all := strings.Join(labels, ",")
			rows(t, home(), []row{
				{">i", "", "block:l block:i i i table:" + all + " end drop l end drop i", wrongType},
				{">i", "", "block:l block i table:" + all + " end l end drop i", either(n == 1, wrongUnder, wrongType)},
				{">i", "", "block:i block:i i i table:" + all + " end end", 2},
				{">i", "", "loop:l block i table:" + all + " end l end drop i", 1},
				{">i", "", "block loop:l i table:" + all + " end drop end i", 1},
				{">i", "", "block:i loop:i i i table:" + all + " end end", either(n == 1, 2, wrongType)},
			})
		}
	}
	// As many labels as there may be, and one more.
	for _, n := range []int{1023, 1024, 1025} {
		want := func(ok int) int { return either(n <= 1024, ok, wrongForm) }
		is := []api.Instr{{Op: api.OpI32Const}, {Op: api.OpBrTable, Labels: make([]int, n)}}
		asks(t, home(), typed(">"), api.Code{Body: is}, want(1), strconv.Itoa(n)+" labels")
		is[1].Labels[0] = 1
		asks(t, home(), typed(">"), api.Code{Body: is}, want(wrongLabel), strconv.Itoa(n)+" labels, the first none")
	}
}

// Blocks as deep as they may stand, and one more.
func TestDepth(t *testing.T) {
	for _, word := range []string{"block", "loop", "i if"} {
		for depth := 30; depth <= 34; depth++ {
			text := strings.Repeat(word+" ", depth) + "i i drop drop" + strings.Repeat(" end", depth)
			asks(t, home(), typed(">"), api.Code{Body: body(text)}, either(depth <= api.MaxNest, 2, wrongForm), text)
		}
	}
	front, back := strings.Repeat("i block:l ", 32), strings.Repeat(" end drop drop l", 31)+" end drop drop"
	rows(t, home(), []row{
		{">i", "", strings.Repeat("i block:i ", 32) + "i" + strings.Repeat(" end #106", 32), 33},
		{">", "", front + "i br:32" + back, 33},
		{">f", "", front + "f br:32" + back + " f", 33},
		{">f", "", front + "i br:32" + back + " f", wrongType},
		{">f", "", front + "l br:31" + back + " f", 33},
		{">f", "", front + "f br:31" + back + " f", wrongType},
	})
}

// The greatest number of values is at most as many as there are instructions, wherever types give one value at most.
func TestMostAndCount(t *testing.T) {
	r := rnd(5)
	for range 200 {
		b := r.valid()
		most, e := Check(home(), typed("ilfd>"), api.Code{Body: b})
		if e != api.OK || most < 0 || most > instr.Count(b) {
			t.Fatalf("P18.1: %v: %d, %d", b, most, e)
		}
	}
}
