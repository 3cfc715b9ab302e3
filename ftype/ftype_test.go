package ftype

import (
	"slices"
	"testing"

	"pelorus/api"
)

// same tells whether two types are alike; an empty list is nil.
func same(a, b api.FuncType) bool {
	return slices.Equal(a.Params, b.Params) && slices.Equal(a.Results, b.Results)
}

// Each type of a row is the same as itself alone.
func TestSame(t *testing.T) {
	row := []api.FuncType{
		{},
		{Params: []int{127}},
		{Results: []int{127}},
		{Params: []int{127}, Results: []int{127}},
		{Params: []int{126}, Results: []int{127}},
		{Params: []int{127}, Results: []int{126}},
		{Params: []int{127, 127}},
		{Params: []int{127, 127}, Results: []int{127}},
		{Params: []int{127}, Results: []int{127, 127}},
		{Params: []int{127, 126}},
		{Params: []int{126, 127}},
		{Params: slices.Repeat([]int{125}, 32)},
		{Params: slices.Repeat([]int{125}, 33)},
		{Params: append(slices.Repeat([]int{125}, 31), 124)},
		// Types that may not be are held against each other too.
		{Params: []int{0}},
		{Results: []int{64, -1}},
	}
	for i, a := range row {
		for k, b := range row {
			apart := api.FuncType{Params: slices.Clone(b.Params), Results: slices.Clone(b.Results)}
			if Same(a, apart) != (i == k) {
				t.Errorf("P17.1: Same(%v, %v): %v", a, b, i != k)
			}
		}
	}
	// An empty list and nil are one.
	if !Same(api.FuncType{Params: []int{}, Results: []int{}}, api.FuncType{}) || !Same(api.FuncType{}, api.FuncType{Results: []int{}}) {
		t.Error("P17.1: types without parameters and results")
	}
}

// module gives one with imports of all kinds among those of functions.
func module() api.Module {
	return api.Module{
		Types: []api.FuncType{{}, {Params: []int{127, 126}, Results: []int{125}}, {Params: []int{124}}},
		Imports: []api.Import{
			{Kind: api.KindMem, Type: 1},
			{Kind: api.KindFunc, Type: 2},
			{Kind: api.KindGlobal, Type: 1},
			{Kind: api.KindTable, Type: 1},
			{Kind: api.KindFunc, Type: 1},
			{Kind: api.KindFunc, Type: 3},
			{Kind: -1, Type: 1},
			{Kind: 4, Type: 1},
			{Kind: api.KindGlobal, Type: 1},
		},
		Funcs: []int{1, 0, -1, 3, 1 << 32, 2},
	}
}

// checkFunc asks for function k of a module; a type's place -1 stands for ErrTypeNone.
func checkFunc(t *testing.T, m api.Module, k int, at int) {
	t.Helper()
	got, e := Func(m, k)
	if at == -1 {
		if e != api.ErrTypeNone || !same(got, api.FuncType{}) {
			t.Errorf("P17.2: Func(%d): %v, %d", k, got, e)
		}
		return
	}
	if e != api.OK || !same(got, m.Types[at]) {
		t.Errorf("P17.2: Func(%d): %v, %d; want %v", k, got, e, m.Types[at])
	}
}

// Imported functions first, whatever stands between them, then the module's own; types that are none of the module's.
func TestFunc(t *testing.T) {
	for k, at := range []int{2, 1, -1, 1, 0, -1, -1, -1, 2, -1} {
		checkFunc(t, module(), k, at)
	}
	for _, k := range []int{-1 << 63, -2, -1, 9, 10, 1 << 32, 1<<63 - 1} {
		checkFunc(t, module(), k, -1)
	}
	// Without imports, without functions of its own, without either, without types.
	m := module()
	m.Imports = nil
	for k, at := range []int{1, 0, -1, -1, -1, 2, -1} {
		checkFunc(t, m, k, at)
	}
	m = module()
	m.Funcs = nil
	for k, at := range []int{2, 1, -1, -1} {
		checkFunc(t, m, k, at)
	}
	checkFunc(t, m, -1, -1)
	checkFunc(t, api.Module{}, 0, -1)
	checkFunc(t, api.Module{Types: make([]api.FuncType, 1)}, 0, -1)
	m = module()
	m.Types = nil
	for k := range 10 {
		checkFunc(t, m, k, -1)
	}
}

// What is answered is new memory: a change of it is seen neither in the module nor in another answer.
func TestFuncApart(t *testing.T) {
	m := module()
	for _, k := range []int{1, 3} {
		a, _ := Func(m, k)
		b, _ := Func(m, k)
		a.Params[0], a.Results[0] = -9, -9
		_ = append(a.Params, -9)
		if want := module().Types[1]; !same(b, want) || !same(m.Types[1], want) {
			t.Errorf("R4: function %d: %v, %v", k, b, m.Types[1])
		}
	}
}
