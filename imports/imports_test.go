package imports

import (
	"math"
	"slices"
	"strconv"
	"testing"

	"pelorus/api"
)

// mixed gives imports of all kinds between one another, some of no kind.
func mixed() api.Module {
	return api.Module{Imports: []api.Import{
		{Kind: 2, Name: "a"}, {Kind: 0, Name: "b", Type: 7}, {Kind: 3, Name: "c", Type: 126, Mut: true}, {Kind: 0, Name: "d"},
		{Kind: -1, Name: "e"}, {Kind: 4, Name: "f"}, {Kind: 1, Name: "g", Limits: api.Limits{Least: 1, Most: 2}}, {Kind: 0, Name: "h"},
		{Kind: 3, Name: "i"}, {Kind: 1, Name: "j"}, {Kind: math.MinInt, Name: "k"}, {Kind: 1 << 32, Name: "l"},
	}}
}

// namesOf gives the names of some of those, one behind the other.
func namesOf(kind int, most int) string {
	out := ""
	for i := range Of(mixed(), kind) {
		if out += i.Name; len(out) == most {
			break
		}
	}
	return out
}

// Each kind's imports come in their row, as they are; a range over them may be left anywhere.
func TestOf(t *testing.T) {
	for kind, want := range map[int]string{0: "bdh", 1: "gj", 2: "a", 3: "ci", -1: "e", 4: "f", 5: "", math.MinInt: "k", math.MaxInt: "", 1 << 32: "l", 1<<32 + 1: ""} {
		if got := namesOf(kind, 99); got != want {
			t.Errorf("chapter 17: Of kind %d: %s; want %s", kind, got, want)
		}
		for most := 1; most < len(want); most++ {
			if got := namesOf(kind, most); got != want[:most] {
				t.Errorf("chapter 17: Of kind %d, the first %d: %s", kind, most, got)
			}
		}
		for range Of(api.Module{}, kind) {
			t.Errorf("chapter 17: Of kind %d: one of none", kind)
		}
	}
	m := mixed()
	all := slices.Concat(slices.Collect(Of(m, 3)), slices.Collect(Of(m, 1)))
	if want := []api.Import{m.Imports[2], m.Imports[8], m.Imports[6], m.Imports[9]}; !slices.Equal(all, want) {
		t.Errorf("chapter 17: Of: %v; want %v", all, want)
	}
}

// A function that tells to stop is not called once more, and the same row may be gone over again.
func TestStop(t *testing.T) {
	row := Of(mixed(), 0)
	for _, stop := range []int{1, 2, 3, 4, 2} {
		calls := 0
		row(func(api.Import) bool {
			calls++
			return calls < stop
		})
		if want := min(stop, 3); calls != want {
			t.Errorf("chapter 17: Of, stopped at %s: %d calls", strconv.Itoa(stop), calls)
		}
	}
}
