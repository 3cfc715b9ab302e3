package ftype

import (
	"math"
	"slices"
	"testing"

	"pelorus/api"
)

// four are the types that there are.
func four() []int { return []int{127, 126, 125, 124} }

// noTypes are numbers that are none of the four: those beside them first, then those whose lowest bits are theirs.
func noTypes() []int {
	return []int{123, 128, 0, 1, -1, 64, 112, 96, 255, -127, -124, 1<<8 + 127, 1<<16 + 126, 1<<32 + 125, 1<<32 + 124, 127 - 1<<8, math.MinInt + 127, math.MinInt, math.MaxInt}
}

// same tells whether two types are alike; an empty list is nil.
func same(a, b api.FuncType) bool {
	return slices.Equal(a.Params, b.Params) && slices.Equal(a.Results, b.Results)
}

// typeOf gives a type of some parameters and results.
func typeOf(params, results []int) api.FuncType {
	return api.FuncType{Params: params, Results: results}
}

// checkMay asks one May, and whether the type is as it was.
func checkMay(t *testing.T, params, results []int, want bool) {
	t.Helper()
	x := typeOf(slices.Clone(params), slices.Clone(results))
	if May(x) != want {
		t.Errorf("P17.1: May(%v, %v): %v; want %v", params, results, !want, want)
	}
	if !same(x, typeOf(params, results)) {
		t.Errorf("R4: May(%v, %v) left %v", params, results, x)
	}
}

// Types without parameters and results, with one and with several.
func TestMay(t *testing.T) {
	checkMay(t, nil, nil, true)
	checkMay(t, []int{}, []int{}, true)
	for _, a := range four() {
		checkMay(t, []int{a}, nil, true)
		checkMay(t, nil, []int{a}, true)
		for _, b := range four() {
			checkMay(t, []int{a}, []int{b}, true)
			checkMay(t, []int{a, b}, nil, true)
			checkMay(t, []int{a, b, a}, []int{b}, true)
			checkMay(t, nil, []int{a, b}, false)
			checkMay(t, []int{a}, []int{b, a}, false)
		}
	}
	checkMay(t, four(), []int{127}, true)
}

// As many parameters as there may be and more, with as many results as there may be and more.
func TestMayCounts(t *testing.T) {
	for _, kind := range four() {
		for _, n := range []int{0, 1, 2, 31, 32, 33, 34, 63, 64, 65, 255, 256, 257, 1024, 1 << 16, 1 << 20} {
			for k := range 4 {
				checkMay(t, slices.Repeat([]int{kind}, n), slices.Repeat([]int{kind}, k), n <= 32 && k <= 1)
			}
		}
		for _, k := range []int{32, 33, 256, 1 << 16, 1<<16 + 1} {
			checkMay(t, nil, slices.Repeat([]int{kind}, k), false)
		}
	}
}

// Numbers that are none of the four, alone and at each place among those that are.
func TestMayTypes(t *testing.T) {
	for x := -300; x <= 600; x++ {
		is := slices.Contains(four(), x)
		checkMay(t, []int{x}, nil, is)
		checkMay(t, nil, []int{x}, is)
		checkMay(t, []int{x}, []int{x}, is)
	}
	for _, x := range noTypes() {
		checkMay(t, []int{x}, nil, false)
		checkMay(t, nil, []int{x}, false)
		checkMay(t, four(), []int{x}, false)
		for _, n := range []int{2, 31, 32, 33} {
			for k := range n {
				params := slices.Repeat([]int{124 + k%4}, n)
				checkMay(t, params, nil, n <= 32)
				params[k] = x
				checkMay(t, params, nil, false)
				checkMay(t, params, []int{127}, false)
			}
		}
		checkMay(t, nil, []int{x, 127}, false)
		checkMay(t, nil, []int{127, x}, false)
	}
}

// checkSame asks one Same each way, and whether the types are as they were.
func checkSame(t *testing.T, a, b api.FuncType, want bool) {
	t.Helper()
	x := typeOf(slices.Clone(a.Params), slices.Clone(a.Results))
	y := typeOf(slices.Clone(b.Params), slices.Clone(b.Results))
	if Same(x, y) != want || Same(y, x) != want {
		t.Errorf("P17.1: Same(%v, %v): want %v", a, b, want)
	}
	if !same(x, a) || !same(y, b) {
		t.Errorf("R4: Same(%v, %v) left %v, %v", a, b, x, y)
	}
}

// Each type of a row is the same as itself alone.
func TestSame(t *testing.T) {
	row := []api.FuncType{
		{},
		{Params: []int{127}},
		{Results: []int{127}},
		{Params: []int{127}, Results: []int{127}},
		{Params: []int{126}, Results: []int{127}},
		{Params: []int{127}, Results: []int{126}},
		{Params: []int{127, 127}},
		{Params: []int{127, 127}, Results: []int{127}},
		{Params: []int{127}, Results: []int{127, 127}},
		{Params: []int{127, 126}},
		{Params: []int{126, 127}},
		// The same numbers in one row, parted elsewhere.
		{Params: []int{127, 126, 125}},
		{Params: []int{127, 126}, Results: []int{125}},
		{Params: []int{127}, Results: []int{126, 125}},
		{Results: []int{127, 126, 125}},
		{Params: slices.Repeat([]int{125}, 32)},
		{Params: slices.Repeat([]int{125}, 33)},
		{Params: append(slices.Repeat([]int{125}, 31), 124)},
		// Types that may not be are held against each other too.
		{Params: []int{0}},
		{Params: []int{1<<32 + 127}},
		{Results: []int{64, -1}},
	}
	for i, a := range row {
		for k, b := range row {
			checkSame(t, a, b, i == k)
		}
	}
	// An empty list and nil are one.
	checkSame(t, typeOf([]int{}, []int{}), api.FuncType{}, true)
	checkSame(t, typeOf([]int{127}, []int{}), typeOf([]int{127}, nil), true)
	checkSame(t, typeOf([]int{}, []int{127}), typeOf(nil, []int{127}), true)
}

// Types that are unlike in one place alone, each of the places; and in one type more at the end or at the beginning.
func TestSameUnlike(t *testing.T) {
	for _, n := range []int{1, 2, 3, 32, 33, 100} {
		long := slices.Repeat(four(), 25)[:n]
		for k := range n {
			for _, x := range append(four(), noTypes()...) {
				other := slices.Clone(long)
				other[k] = x
				checkSame(t, typeOf(long, four()), typeOf(other, four()), x == long[k])
				checkSame(t, typeOf(four(), long), typeOf(four(), other), x == long[k])
			}
		}
		for _, x := range append(four(), 0) {
			for _, other := range [][]int{append(slices.Clone(long), x), append([]int{x}, long...)} {
				checkSame(t, typeOf(long, nil), typeOf(other, nil), false)
				checkSame(t, typeOf(nil, long), typeOf(nil, other), false)
				checkSame(t, typeOf(long, long), typeOf(other, long), false)
				checkSame(t, typeOf(long, long), typeOf(long, other), false)
			}
		}
	}
}

// Types whose lists share their memory, and lists with spare room, are held against each other by what they have.
func TestSameShared(t *testing.T) {
	row := []int{127, 126, 127, 126}
	a, b := typeOf(row[:2], row[2:]), typeOf(row[2:], row[:2])
	if !Same(a, a) || !Same(a, b) || Same(a, typeOf(row[:3], row[3:])) || Same(typeOf(row[:1], nil), typeOf(row[1:2], nil)) {
		t.Error("P17.1: lists of one memory")
	}
	if Same(typeOf(row[:2], nil), typeOf(row, nil)) || !May(typeOf(append(make([]int, 0, 64), 127), row[:1])) {
		t.Error("P17.1: lists with spare room")
	}
	if !slices.Equal(row, []int{127, 126, 127, 126}) {
		t.Errorf("R4: %v", row)
	}
}
