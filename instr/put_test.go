package instr

import (
	"fmt"
	"math"
	"slices"
	"strings"
	"testing"

	"pelorus/api"
)

// Each row of the chapter's table, byte by byte.
func TestRows(t *testing.T) {
	nop, drop := api.Instr{Op: api.OpNop}, api.Instr{Op: api.OpDrop}
	for _, c := range []struct {
		is   []api.Instr
		text string
	}{
		{nil, "\x0b"},
		{[]api.Instr{}, "\x0b"},
		{[]api.Instr{{Op: api.OpUnreachable}}, "\x00\x0b"},
		{[]api.Instr{nop}, "\x01\x0b"},
		{[]api.Instr{{Op: api.OpReturn}}, "\x0f\x0b"},
		{[]api.Instr{drop}, "\x1a\x0b"},
		{[]api.Instr{{Op: api.OpSelect}}, "\x1b\x0b"},
		{[]api.Instr{{Op: api.OpNumFirst}, {Op: 106}, {Op: api.OpNumLast}}, "\x45\x6a\xbf\x0b"},
		{[]api.Instr{{Op: api.OpBlock, Type: api.TypeNone}}, "\x02\x40\x0b\x0b"},
		{[]api.Instr{{Op: api.OpBlock, Type: api.TypeI64, Body: []api.Instr{nop, drop}}, nop}, "\x02\x7e\x01\x1a\x0b\x01\x0b"},
		{[]api.Instr{{Op: api.OpLoop, Type: api.TypeF32, Body: []api.Instr{{Op: api.OpBr}}}}, "\x03\x7d\x0c\x00\x0b\x0b"},
		{[]api.Instr{{Op: api.OpIf, Type: api.TypeF64}}, "\x04\x7c\x0b\x0b"},
		{[]api.Instr{{Op: api.OpIf, Type: api.TypeNone, Body: []api.Instr{nop}, Else: []api.Instr{}}}, "\x04\x40\x01\x0b\x0b"},
		{[]api.Instr{{Op: api.OpIf, Type: api.TypeI32, Body: []api.Instr{nop}, Else: []api.Instr{drop, nop}}}, "\x04\x7f\x01\x05\x1a\x01\x0b\x0b"},
		{[]api.Instr{{Op: api.OpIf, Type: api.TypeI32, Else: []api.Instr{drop}}}, "\x04\x7f\x05\x1a\x0b\x0b"},
		{[]api.Instr{{Op: api.OpBr, A: 1}}, "\x0c\x01\x0b"},
		{[]api.Instr{{Op: api.OpBrIf, A: 127}}, "\x0d\x7f\x0b"},
		{[]api.Instr{{Op: api.OpCall, A: 128}}, "\x10\x80\x01\x0b"},
		{[]api.Instr{{Op: api.OpLocalGet, A: 300}}, "\x20\xac\x02\x0b"},
		{[]api.Instr{{Op: api.OpLocalSet, A: 11}}, "\x21\x0b\x0b"},
		{[]api.Instr{{Op: api.OpLocalTee, A: 5}}, "\x22\x05\x0b"},
		{[]api.Instr{{Op: api.OpGlobalGet, A: 1<<32 - 1}}, "\x23\xff\xff\xff\xff\x0f\x0b"},
		{[]api.Instr{{Op: api.OpGlobalSet, A: 1 << 31}}, "\x24\x80\x80\x80\x80\x08\x0b"},
		{[]api.Instr{{Op: api.OpBrTable, Labels: []int{7}}}, "\x0e\x00\x07\x0b"},
		{[]api.Instr{{Op: api.OpBrTable, Labels: []int{3, 2, 1<<32 - 1, 0}}}, "\x0e\x03\x03\x02\xff\xff\xff\xff\x0f\x00\x0b"},
		{[]api.Instr{{Op: api.OpCallIndirect, A: 200}}, "\x11\xc8\x01\x00\x0b"},
		{[]api.Instr{{Op: api.OpLoad, A: 2, B: 128}}, "\x28\x02\x80\x01\x0b"},
		{[]api.Instr{{Op: api.OpStore, A: 1<<32 - 1, B: 0}}, "\x36\xff\xff\xff\xff\x0f\x00\x0b"},
		{[]api.Instr{{Op: api.OpStoreLast, A: 0, B: 1<<32 - 1}}, "\x3e\x00\xff\xff\xff\xff\x0f\x0b"},
		{[]api.Instr{{Op: api.OpMemorySize}, {Op: api.OpMemoryGrow}}, "\x3f\x00\x40\x00\x0b"},
		{[]api.Instr{{Op: api.OpI32Const}}, "\x41\x00\x0b"},
		{[]api.Instr{{Op: api.OpI32Const, Bits: 63}}, "\x41\x3f\x0b"},
		{[]api.Instr{{Op: api.OpI32Const, Bits: 64}}, "\x41\xc0\x00\x0b"},
		{[]api.Instr{{Op: api.OpI32Const, Bits: 1<<32 - 1}}, "\x41\x7f\x0b"},
		{[]api.Instr{{Op: api.OpI32Const, Bits: 1<<31 - 1}}, "\x41\xff\xff\xff\xff\x07\x0b"},
		{[]api.Instr{{Op: api.OpI32Const, Bits: 1 << 31}}, "\x41\x80\x80\x80\x80\x78\x0b"},
		{[]api.Instr{{Op: api.OpI64Const, Bits: -1}}, "\x42\x7f\x0b"},
		{[]api.Instr{{Op: api.OpI64Const, Bits: 1<<32 - 1}}, "\x42\xff\xff\xff\xff\x0f\x0b"},
		{[]api.Instr{{Op: api.OpI64Const, Bits: math.MaxInt}}, "\x42\xff\xff\xff\xff\xff\xff\xff\xff\xff\x00\x0b"},
		{[]api.Instr{{Op: api.OpI64Const, Bits: math.MinInt}}, "\x42\x80\x80\x80\x80\x80\x80\x80\x80\x80\x7f\x0b"},
		{[]api.Instr{{Op: api.OpF32Const, Bits: 0x04030201}}, "\x43\x01\x02\x03\x04\x0b"},
		{[]api.Instr{{Op: api.OpF32Const}}, "\x43\x00\x00\x00\x00\x0b"},
		{[]api.Instr{{Op: api.OpF32Const, Bits: 1<<32 - 1}}, "\x43\xff\xff\xff\xff\x0b"},
		{[]api.Instr{{Op: api.OpF32Const, Bits: 1 << 31}}, "\x43\x00\x00\x00\x80\x0b"},
		{[]api.Instr{{Op: api.OpF64Const, Bits: 0x0807060504030201}}, "\x44\x01\x02\x03\x04\x05\x06\x07\x08\x0b"},
		{[]api.Instr{{Op: api.OpF64Const, Bits: -1}}, "\x44\xff\xff\xff\xff\xff\xff\xff\xff\x0b"},
		{[]api.Instr{{Op: api.OpF64Const, Bits: math.MinInt}}, "\x44\x00\x00\x00\x00\x00\x00\x00\x80\x0b"},
		{[]api.Instr{{Op: api.OpF64Const, Bits: math.MaxInt}}, "\x44\xff\xff\xff\xff\xff\xff\xff\x7f\x0b"},
	} {
		checkBoth(t, c.is, c.text)
	}
}

// Blocks, loops and ifs within one another, with and without Else.
func TestWithinOneAnother(t *testing.T) {
	nop := api.Instr{Op: 1}
	for _, c := range []struct {
		is   []api.Instr
		text string
	}{
		{[]api.Instr{{Op: 2, Type: 64, Body: []api.Instr{{Op: 3, Type: 127, Body: []api.Instr{nop}}, nop}}}, "\x02\x40\x03\x7f\x01\x0b\x01\x0b\x0b"},
		{[]api.Instr{{Op: 4, Type: 64, Body: []api.Instr{{Op: 4, Type: 64, Body: []api.Instr{nop}}}, Else: []api.Instr{nop}}}, "\x04\x40\x04\x40\x01\x0b\x05\x01\x0b\x0b"},
		{[]api.Instr{{Op: 4, Type: 64, Body: []api.Instr{{Op: 4, Type: 64, Body: []api.Instr{nop}, Else: []api.Instr{nop}}}}}, "\x04\x40\x04\x40\x01\x05\x01\x0b\x0b\x0b"},
		{[]api.Instr{{Op: 4, Type: 64, Else: []api.Instr{{Op: 4, Type: 64, Else: []api.Instr{{Op: 2, Type: 64}}}}}}, "\x04\x40\x05\x04\x40\x05\x02\x40\x0b\x0b\x0b\x0b"},
		{[]api.Instr{{Op: 4, Type: 64, Body: []api.Instr{{Op: 2, Type: 64}}, Else: []api.Instr{{Op: 3, Type: 64}}}, {Op: 0}}, "\x04\x40\x02\x40\x0b\x05\x03\x40\x0b\x0b\x00\x0b"},
	} {
		checkBoth(t, c.is, c.text)
	}
	for deep := range 33 {
		is := within(deep, []api.Instr{{Op: 14, Labels: []int{1, 2}}})
		checkBoth(t, is, listText(is))
	}
}

// Every number as an Op: those of the table stand as it says, the others are refused.
func TestEveryOp(t *testing.T) {
	ops := []int{-1, -2, -64, -255, -256, 256, 257, 258, 256 + 69, 1<<32 + 1, 1 << 32, -1 << 32, math.MinInt, math.MinInt + 1, math.MaxInt}
	for op := range 256 {
		ops = append(ops, op)
	}
	good := 0
	for _, op := range ops {
		is := []api.Instr{{Op: 1}, plainest(op), {Op: 1}}
		if shape(op) == none {
			refusedPut(t, op, is, api.ErrInstrForm)
			refusedPut(t, op, []api.Instr{{Op: op, Type: 64, Body: many(2)}}, api.ErrInstrForm)
			refusedPut(t, op, []api.Instr{{Op: 2, Type: 64, Body: []api.Instr{{Op: op}}}}, api.ErrInstrForm)
			continue
		}
		good++
		checkBoth(t, is, listText(is))
	}
	if good != 5+123+3+3+5+1+1+23+2+4 {
		t.Errorf("%d Ops", good)
	}
}

// fields gives, by the letters of shape, an instruction's change to another value than zero.
func fields() map[string]func(*api.Instr) {
	return map[string]func(*api.Instr){
		"a":    func(i *api.Instr) { i.A = 1 },
		"b":    func(i *api.Instr) { i.B = 1 },
		"sSfF": func(i *api.Instr) { i.Bits = 1 },
		"t":    func(i *api.Instr) { i.Type = 127 },
		"l":    func(i *api.Instr) { i.Labels = []int{0} },
		"y":    func(i *api.Instr) { i.Body = many(1) },
		"e":    func(i *api.Instr) { i.Else = many(1) },
	}
}

// Each field that an Op does not use, set to another value than zero, is refused; each that it uses is not.
func TestEveryField(t *testing.T) {
	for op := range 256 {
		if shape(op) == none {
			continue
		}
		for letters, change := range fields() {
			i := plainest(op)
			change(&i)
			if strings.ContainsAny(shape(op), letters) {
				checkBoth(t, []api.Instr{i}, listText([]api.Instr{i}))
			} else {
				refusedPut(t, fmt.Sprint(op, " with ", letters), []api.Instr{i}, api.ErrInstrForm)
			}
		}
	}
	for _, x := range []int{-1, math.MinInt, math.MaxInt, 1 << 32, 64} {
		for _, i := range []api.Instr{{Op: 1, A: x}, {Op: 1, B: x}, {Op: 1, Bits: x}, {Op: 1, Type: x}, {Op: 12, B: x}, {Op: 12, Bits: x}, {Op: 12, Type: x}, {Op: 66, A: x}, {Op: 2, Type: 64, A: x}, {Op: 2, Type: 64, Bits: x}} {
			refusedPut(t, i, []api.Instr{i}, api.ErrInstrForm)
		}
	}
}

// Lists that are empty and not nil are as nil, also in an instruction that does not use them.
func TestEmptyLists(t *testing.T) {
	for op := range 256 {
		if shape(op) == none {
			continue
		}
		i := plainest(op)
		want := listText([]api.Instr{i})
		i.Body, i.Else = []api.Instr{}, make([]api.Instr, 0, 3)
		if i.Labels == nil {
			i.Labels = []int{}
		}
		checkPut(t, []api.Instr{i}, want)
	}
}

// A, B and Labels from 0 to 2^32 - 1.
func TestRangesOfNumbers(t *testing.T) {
	for _, x := range []int{0, 1, 127, 128, 1<<31 - 1, 1 << 31, 1<<32 - 2, 1<<32 - 1, 1 << 32, 1<<32 + 1, math.MaxInt, -1, -2, -1 << 31, -1 << 32, math.MinInt} {
		for op := range 256 {
			var tries []api.Instr
			switch shape(op) {
			case "a", "a0":
				tries = []api.Instr{{Op: op, A: x}}
			case "ab":
				tries = []api.Instr{{Op: op, A: x}, {Op: op, B: x}, {Op: op, A: x, B: x}}
			case "l":
				tries = []api.Instr{{Op: op, Labels: []int{x}}, {Op: op, Labels: []int{x, 0}}, {Op: op, Labels: []int{0, x}}, {Op: op, Labels: []int{1, x, 2}}}
			}
			for _, i := range tries {
				if x >= 0 && x < 1<<32 {
					checkBoth(t, []api.Instr{i}, listText([]api.Instr{i}))
				} else {
					refusedPut(t, i, []api.Instr{i}, api.ErrInstrForm)
				}
			}
		}
	}
}

// Bits of constants: of 32 bits from 0 to 2^32 - 1, of 64 bits any.
func TestRangesOfBits(t *testing.T) {
	all := []int{0, math.MaxInt, math.MinInt, math.MaxInt - 1, math.MinInt + 1}
	for k := range 63 {
		for d := -2; d <= 2; d++ {
			all = append(all, 1<<k+d, -1<<k+d)
		}
	}
	for _, x := range all {
		for op := 65; op <= 68; op++ {
			is := []api.Instr{{Op: op, Bits: x}}
			if op%2 == 0 || x >= 0 && x < 1<<32 {
				checkBoth(t, is, listText(is))
			} else {
				refusedPut(t, is, is, api.ErrInstrForm)
			}
		}
	}
}

// Type of blocks is TypeNone or one of the four.
func TestTypesOfBlocks(t *testing.T) {
	types := []int{math.MinInt, math.MaxInt, 1<<32 + 64, 1<<32 + 127, 256 + 127, -1 << 32}
	for k := -300; k <= 300; k++ {
		types = append(types, k)
	}
	for _, kind := range types {
		for op := 2; op <= 4; op++ {
			is := []api.Instr{{Op: op, Type: kind, Body: many(1)}}
			if slices.Contains([]int{64, 127, 126, 125, 124}, kind) {
				checkBoth(t, is, listText(is))
			} else {
				refusedPut(t, is, is, api.ErrInstrForm)
			}
		}
	}
}

// At least one Label, at most MaxItems.
func TestHowManyLabels(t *testing.T) {
	for _, n := range []int{1, 2, 127, 128, 129, 1023, 1024} {
		labels := make([]int, n)
		for k := range labels {
			labels[k] = k * 4194301
		}
		is := []api.Instr{{Op: 14, Labels: labels}}
		checkBoth(t, is, listText(is))
	}
	for _, n := range []int{0, 1025, 1026, 2048, 1 << 20} {
		refusedPut(t, n, []api.Instr{{Op: 14, Labels: make([]int, n)}}, api.ErrInstrForm)
	}
}

// Blocks MaxNest deep stand, one deeper is refused, whichever they are.
func TestPutDepth(t *testing.T) {
	for name, nest := range map[string]func(int, []api.Instr) []api.Instr{
		"blocks": func(deep int, inner []api.Instr) []api.Instr { return blocks(2, deep, inner) },
		"loops":  func(deep int, inner []api.Instr) []api.Instr { return blocks(3, deep, inner) },
		"ifs":    func(deep int, inner []api.Instr) []api.Instr { return blocks(4, deep, inner) },
		"elses":  elses,
		"mixed":  within,
	} {
		for _, inner := range [][]api.Instr{nil, many(3), {{Op: 65, Bits: 9}}} {
			is := nest(32, inner)
			checkBoth(t, is, listText(is))
			for _, deep := range []int{33, 34, 100, 9000} {
				refusedPut(t, fmt.Sprint(name, " ", deep), nest(deep, inner), api.ErrInstrNest)
			}
		}
		for op := 2; op <= 4; op++ {
			refusedPut(t, name, nest(32, []api.Instr{{Op: 1}, {Op: op, Type: 64}}), api.ErrInstrNest)
		}
	}
	// Blocks side by side are no deeper for it.
	side := slices.Concat(blocks(2, 32, nil), blocks(3, 32, many(1)), blocks(4, 32, nil))
	checkBoth(t, side, listText(side))
}

// spread gives n instructions in blocks, loops, ifs and Elses of some length, none of them empty.
func spread(n int) []api.Instr {
	var out []api.Instr
	for k := 0; n > 0; k++ {
		if n < 10 {
			return append(out, many(n)...)
		}
		switch k % 3 {
		case 0:
			out = append(out, api.Instr{Op: 2, Type: 64, Body: many(4)})
			n -= 5
		case 1:
			out = append(out, api.Instr{Op: 4, Type: 64, Body: many(2), Else: many(3)})
			n -= 6
		case 2:
			out = append(out, api.Instr{Op: 3, Type: 64, Body: []api.Instr{{Op: 4, Type: 64, Else: many(1)}}})
			n -= 3
		}
	}
	return out
}

// MaxBody instructions stand, one more is refused, in one list and spread over blocks.
func TestPutHowMany(t *testing.T) {
	lists := map[string]func(int) []api.Instr{
		"one list":      many,
		"spread":        spread,
		"in a block":    func(n int) []api.Instr { return blocks(2, 1, many(n-1)) },
		"deep":          func(n int) []api.Instr { return blocks(3, 32, many(n-32)) },
		"in an Else":    func(n int) []api.Instr { return elses(7, spread(n-7)) },
		"behind blocks": func(n int) []api.Instr { return append(within(3, many(100)), many(n-100-8)...) },
	}
	for name, list := range lists {
		for _, n := range []int{8190, 8191, 8192} {
			is := list(n)
			text, code := Put(is)
			if Count(is) != n || text != listText(is) || code != api.OK {
				t.Errorf("P14.1: %s: %d of %d: %d", name, Count(is), n, code)
			}
			checkGet(t, "\x01"+text+"\x01", 1, is, 1+len(text))
		}
		for _, n := range []int{8193, 8194, 20000} {
			refusedPut(t, fmt.Sprint(name, " ", n), list(n), api.ErrInstrForm)
		}
	}
}

// Which of two errors goes ahead: the first in the row of All, whatever it is.
func TestPutRow(t *testing.T) {
	deep, wrong := blocks(2, 33, nil), []api.Instr{{Op: 5}}
	wrongIf := func(body, other []api.Instr) []api.Instr {
		return []api.Instr{{Op: 4, Type: 64, Body: body, Else: other}}
	}
	for _, c := range []struct {
		what string
		is   []api.Instr
		code api.Errno
	}{
		{"deep ahead of wrong", slices.Concat(deep, wrong), api.ErrInstrNest},
		{"wrong ahead of deep", slices.Concat(wrong, deep), api.ErrInstrForm},
		{"a wrong block around deep ones", []api.Instr{{Op: 2, Type: 1, Body: deep}}, api.ErrInstrForm},
		{"a field not used around deep ones", []api.Instr{{Op: 2, Type: 64, A: 1, Body: deep}}, api.ErrInstrForm},
		{"no block around deep ones", []api.Instr{{Op: 1, Body: deep}}, api.ErrInstrForm},
		{"a block with an Else around deep ones", []api.Instr{{Op: 2, Type: 64, Body: deep, Else: many(1)}}, api.ErrInstrForm},
		{"deep in Body, wrong in Else", wrongIf(deep, wrong), api.ErrInstrNest},
		{"wrong in Body, deep in Else", wrongIf(wrong, deep), api.ErrInstrForm},
		{"deep in Else, wrong behind", slices.Concat(wrongIf(nil, deep), wrong), api.ErrInstrNest},
		{"too deep and wrong itself: no Type", blocks(2, 32, []api.Instr{{Op: 2}}), api.ErrInstrNest},
		{"too deep and wrong itself: Else", blocks(2, 32, []api.Instr{{Op: 3, Type: 64, Else: many(1)}}), api.ErrInstrNest},
		{"wrong in the deepest block", blocks(2, 32, wrong), api.ErrInstrForm},
		{"wrong in the deepest block, ahead of deep", blocks(2, 32, slices.Concat(wrong, deep)), api.ErrInstrForm},
		{"one more, then deep", slices.Concat(many(8193), deep), api.ErrInstrForm},
		{"one more that is too deep", slices.Concat(many(8192-32), blocks(2, 33, nil)), api.ErrInstrForm},
		{"the last that may be is too deep", slices.Concat(many(8192-33), blocks(2, 33, nil)), api.ErrInstrNest},
		{"deep, then one more", slices.Concat(deep, many(8193)), api.ErrInstrNest},
		{"8192 without fault, then deep", slices.Concat(many(8192), deep), api.ErrInstrForm},
	} {
		refusedPut(t, c.what, c.is, c.code)
	}
}

// Lists that hold themselves, and such as are great by what they share, are refused in no time.
func TestPutEndless(t *testing.T) {
	for op := 2; op <= 4; op++ {
		loop := make([]api.Instr, 1)
		loop[0] = api.Instr{Op: op, Type: 64, Body: loop}
		refusedPut(t, "a list in itself", loop, api.ErrInstrNest)
	}
	other := make([]api.Instr, 1)
	other[0] = api.Instr{Op: 4, Type: 64, Else: other}
	refusedPut(t, "a list in its own Else", other, api.ErrInstrNest)
	wrong := make([]api.Instr, 2)
	wrong[0] = api.Instr{Op: 2, Type: 64, Body: wrong[1:]}
	wrong[1] = api.Instr{Op: 1, Body: wrong}
	refusedPut(t, "no block with a list in itself", wrong, api.ErrInstrForm)
	refusedPut(t, "doubled", doubled(31), api.ErrInstrForm)
	refusedPut(t, "doubled, too deep", doubled(60), api.ErrInstrNest)
}

// doubled gives blocks that hold the same two blocks, and so on: 2^(deep + 1) in all.
func doubled(deep int) []api.Instr {
	is := many(2)
	for range deep {
		one := api.Instr{Op: 2, Type: 64, Body: is}
		is = []api.Instr{one, one}
	}
	return is
}

// What is handed in is not changed, its spare room neither.
func TestPutLeavesAll(t *testing.T) {
	r := numbers(7)
	for range 200 {
		is := append(make([]api.Instr, 0, 50), r.list(9, 0)...)
		room := is[:cap(is)]
		for k := len(is); k < len(room); k++ {
			room[k] = api.Instr{Op: 77, Labels: []int{7}}
		}
		before := twin(room)
		Put(is)
		Put(append(slices.Clone(is), api.Instr{Op: 5}))
		Count(is)
		for range All(is) {
		}
		if !same(room, before) {
			t.Fatalf("R4: %v became %v", before, room)
		}
	}
}

// The greatest list that may be: MaxBody OpBrTables of MaxItems Labels each.
func TestGreatest(t *testing.T) {
	labels := slices.Repeat([]int{1<<32 - 1}, 1024)
	is := slices.Repeat([]api.Instr{{Op: 14, Labels: labels}}, 8192)
	text, code := Put(is)
	one := "\x0e\xff\x07" + strings.Repeat("\xff\xff\xff\xff\x0f", 1024)
	if text != strings.Repeat(one, 8192)+"\x0b" || code != api.OK {
		t.Fatalf("P14.1: %d bytes, %d", len(text), code)
	}
	if back, behind, code := Get(text, 0); !same(back, is) || behind != len(text) || code != api.OK {
		t.Errorf("P14.3: %d, %d, %d", len(back), behind, code)
	}
}
