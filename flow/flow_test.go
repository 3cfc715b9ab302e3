package flow

import (
	"fmt"
	"strings"
	"testing"

	"pelorus/api"
)

// Errors, as rows tell them: numbers below 0.
const (
	wrongForm  = -1800
	wrongType  = -1801
	wrongUnder = -1802
	wrongLabel = -1803
	wrongIndex = -1804
	wrongAlign = -1805
	wrongMut   = -1806
	wrongRest  = -1807
)

// others gives the letters of the types that are not that one.
func others(letter byte) []string {
	return strings.Split(strings.ReplaceAll("ilfd", string(letter), ""), "")
}

// Each instruction that has one type, with the values that it takes, as a statement and as what its function gives.
func TestPlain(t *testing.T) {
	for _, p := range plains() {
		before := spaced(p.params) + " " + p.word
		most := max(len(p.params), len(p.results))
		rows(t, home(), []row{
			{"ilfd>", "", before + drops(len(p.results)), most},
			{"ilfd>" + p.results, "", before, most},
			{"ilfd>", "", before + " " + before + drops(2*len(p.results)), max(most, len(p.results)+max(len(p.params), len(p.results)))},
			// Values below are not touched, nor taken.
			{"ilfd>d", "", "d " + before + drops(len(p.results)), most + 1},
			{"ilfd>", "", "d l f " + before + drops(len(p.results)+3), most + 3},
			{"ilfd>", "", "block " + before + drops(len(p.results)) + " end", most},
			{"ilfd>", "", "loop:d d " + before + drops(len(p.results)) + " end drop", most + 1},
		})
		// What it gives is of that type alone.
		if p.results == "" {
			for _, x := range []string{"i", "l", "f", "d"} {
				rows(t, home(), []row{{"ilfd>" + x, "", before, wrongUnder}, {"ilfd>i", "", "i " + before + " drop", wrongUnder}})
			}
			continue
		}
		rows(t, home(), []row{{"ilfd>", "", before, wrongRest}})
		for _, x := range others(p.results[0]) {
			rows(t, home(), []row{{"ilfd>" + x, "", before, wrongType}})
		}
	}
}

// Each instruction that has one type, with one value too few, and with one of another type at each place.
func TestPlainWrong(t *testing.T) {
	for _, p := range plains() {
		for k := range len(p.params) {
			rest := spaced(p.params[k+1:]) + " " + p.word
			rows(t, home(), []row{
				{"ilfd>", "", rest, wrongUnder},
				{"ilfd>", "", spaced(p.params[:k+1]) + " block " + rest + " end", wrongUnder},
			})
			for _, x := range others(p.params[k]) {
				rows(t, home(), []row{
					{"ilfd>", "", spaced(p.params[:k]) + " " + x + " " + rest, wrongType},
					// The topmost is asked first, so nothing is missed below it.
					{"ilfd>", "", x + " " + rest, wrongType},
				})
			}
		}
	}
}

// Locals: parameters first, then the code's own.
func TestLocals(t *testing.T) {
	rows(t, home(), []row{
		{"i>i", "", "get:0", 1},
		{"il>l", "", "get:1", 1},
		{"il>f", "fd", "get:2", 1},
		{"il>d", "fd", "get:3", 1},
		{"il>d", "fd", "get:2", wrongType},
		{"il>f", "fd", "get:3", wrongType},
		{"il>", "fd", "get:4", wrongIndex},
		{"il>", "fd", "f set:2 d set:3 i set:0 l set:1", 1},
		{"il>", "fd", "d set:2", wrongType},
		{"il>", "fd", "l set:4", wrongIndex},
		{">l", "il", "get:1", 1},
		{">l", "il", "get:0", wrongType},
		{">l", "il", "get:1 tee:1", 1},
		{">i", "il", "l tee:1", wrongType},
		{">l", "il", "i tee:1", wrongType},
		{">l", "il", "l tee:2", wrongIndex},
		{">", "", "get:0", wrongIndex},
		{">", "", "i set:0", wrongIndex},
		{">", "", "i tee:0 drop", wrongIndex},
		{"i>", "", "get:1", wrongIndex},
		// A value that is left on the way is no local.
		{">", "i", "i i set:1 drop", wrongIndex},
		{"i>i", "", "get:0 tee:0 tee:0", 1},
	})
}

// Globals: imported ones first; only those that are mut are set.
func TestGlobals(t *testing.T) {
	rows(t, home(), []row{
		{">f", "", "gget:0", 1},
		{">l", "", "gget:1", 1},
		{">i", "", "gget:2", 1},
		{">d", "", "gget:3", 1},
		{">", "", "l gset:1 i gset:2 d gset:4 f gset:5", 1},
		{">", "", "gget:1 gset:1", 1},
		{">", "", "gget:0 gset:1", wrongType},
		{">", "", "f gset:0", wrongMut},
		{">", "", "d gset:3", wrongMut},
		{">", "", "gget:6", wrongIndex},
		{">", "", "f gset:6", wrongIndex},
		{">i", "", "gget:0", wrongType},
		{">", "", "gset:1", wrongUnder},
	})
	own := home()
	own.Imports = nil
	rows(t, own, []row{{">i", "", "gget:0", 1}, {">d", "", "gget:1", 1}, {">", "", "i gset:0", 1}, {">", "", "d gset:1", wrongMut}, {">", "", "gget:4", wrongIndex}})
	given := home()
	given.Globals = nil
	rows(t, given, []row{{">f", "", "gget:0", 1}, {">", "", "l gset:1", 1}, {">", "", "i gget:2", wrongIndex}})
}

// Calls of imported functions and of the module's own; by a table.
func TestCalls(t *testing.T) {
	rows(t, home(), []row{
		{">f", "", "i l call:0", 2},
		{">f", "", "i l call:4", 2},
		{">", "", "call:1", 0},
		{">d", "", "call:2", 1},
		{">l", "", "l f d i call:3", 4},
		{">", "", "d call:5", 1},
		{">", "", "call:2 call:5", 1},
		{">", "", "l i call:0", wrongType},
		{">", "", "i call:0", wrongType},
		{">", "", "l call:0", wrongUnder},
		{">", "", "call:0", wrongUnder},
		{">", "", "call:6", wrongIndex},
		{">", "", "i l call:7", wrongIndex},
		{">f", "", "i l i indirect:0", 3},
		{">", "", "i indirect:1", 1},
		{">d", "", "i indirect:2", 1},
		{">l", "", "l f d i i indirect:3", 5},
		{">", "", "d i indirect:4", 2},
		{">", "", "i indirect:5", wrongIndex},
		{">", "", "i l indirect:0", wrongType},
		{">", "", "indirect:1", wrongUnder},
		{">", "", "l indirect:1", wrongType},
		{">", "", "i i i indirect:0", wrongType},
		{">f", "", "l i call:3", wrongType},
	})
	own := home()
	own.Imports = []api.Import{{Kind: api.KindTable}}
	rows(t, own, []row{{">d", "", "call:0", 1}, {">f", "", "i l call:2", 2}, {">", "", "d call:3", 1}, {">", "", "call:4", wrongIndex}})
	given := home()
	given.Funcs = nil
	rows(t, given, []row{{">f", "", "i l call:0", 2}, {">", "", "call:1", 0}, {">", "", "call:2", wrongIndex}})
}

// A memory and a table, imported, the module's own, and none.
func TestMemoryAndTable(t *testing.T) {
	least := api.Limits{Least: 1, Most: -1}
	imported := api.Module{Types: []api.FuncType{{}}, Imports: []api.Import{{Kind: api.KindMem}, {Kind: api.KindTable}}}
	own := api.Module{Types: []api.FuncType{{}}, Mems: []api.Limits{least}, Tables: []api.Limits{least}}
	memory, table := own, own
	memory.Tables, table.Mems = nil, nil
	none := api.Module{Types: []api.FuncType{{}}, Imports: []api.Import{{Kind: api.KindFunc}, {Kind: api.KindGlobal, Type: 127}, {Kind: 4}, {Kind: -1}}}
	for _, c := range []struct {
		m                api.Module
		hasMem, hasTable bool
	}{{imported, true, true}, {own, true, true}, {memory, true, false}, {table, false, true}, {none, false, false}} {
		needs := func(has bool, most int) int { return either(has, most, wrongIndex) }
		rows(t, c.m, []row{{">", "", "size drop", needs(c.hasMem, 1)}, {">", "", "i grow drop", needs(c.hasMem, 1)}, {">", "", "i indirect:0", needs(c.hasTable, 1)}})
		for op := 40; op <= 62; op++ {
			params, results, _ := strings.Cut(shape(op), ">")
			text := spaced(params) + fmt.Sprintf(" #%d:0:4294967295", op) + drops(len(results))
			rows(t, c.m, []row{{">", "", text, needs(c.hasMem, len(params))}})
		}
	}
}

// Blocks, loops and ifs, with and without a result, alone.
func TestBlocks(t *testing.T) {
	for _, word := range []string{"block", "loop", "i if"} {
		first := strings.Count(word, "i if")
		rows(t, home(), []row{
			{">", "", word + " end", first},
			{">", "", word + " nop end", first},
			{">", "", word + " i drop end", 1},
			{">", "", word + " i i drop drop end", 2},
			{">", "", word + " i end", wrongRest},
			{">", "", word + " drop end", wrongUnder},
			{">", "", "i " + word + " drop end", wrongUnder},
			{">i", "", "i " + word + " end", 1 + first},
			{">", "", "i " + word + " end drop", 1 + first},
			{">", "", "i " + word + " i i drop drop end drop", 3},
			{">", "", word + " end drop", wrongUnder},
		})
	}
	for _, x := range []string{"i", "l", "f", "d"} {
		for _, word := range []string{"block", "loop"} {
			rows(t, home(), []row{
				{">" + x, "", word + ":" + x + " " + x + " end", 1},
				{">", "", word + ":" + x + " " + x + " end drop", 1},
				{">", "", word + ":" + x + " " + x + " end", wrongRest},
				{">", "", word + ":" + x + " end drop", wrongUnder},
				{">", "", x + " " + word + ":" + x + " end drop drop", wrongUnder},
				{">", "", word + ":" + x + " " + x + " " + x + " end drop", wrongRest},
				{">", "", "i " + word + ":" + x + " " + x + " end drop drop", 2},
			})
			for _, y := range others(x[0]) {
				rows(t, home(), []row{
					{">" + y, "", word + ":" + x + " " + x + " end", wrongType},
					{">", "", word + ":" + x + " " + y + " end drop", wrongType},
					{">", "", word + ":" + x + " " + x + " " + y + " end drop", wrongType},
					{">", "", word + ":" + x + " " + y + " " + x + " end drop", wrongRest},
				})
			}
		}
	}
}

// Ifs: their condition, their Body and their Else.
func TestIf(t *testing.T) {
	rows(t, home(), []row{
		{">i", "", "i if:i i else i end", 1},
		{">l", "", "i if:l l else l end", 1},
		{">l", "", "i if:l i i #106 drop l else l l #124 end", 2},
		{">", "", "i if else nop end", 1},
		{">", "", "i if nop else nop end", 1},
		{">", "", "i if else i i drop drop end", 2},
		{">i", "", "l i if:i i else i end drop i", wrongRest},
		{">", "", "l i if:i i else i end drop drop", 2},
		{">", "", "if end", wrongUnder},
		{">", "", "l if end", wrongType},
		{">", "", "f if end", wrongType},
		{">", "", "d if:i i else i end drop", wrongType},
		{">", "", "i block if end end", wrongUnder},
		// The condition is gone before the Body begins.
		{">", "", "i if drop end", wrongUnder},
		{">", "", "i i if drop end drop", wrongUnder},
		{">", "", "i i if else drop end drop", wrongUnder},
		{">i", "", "i i if end", 2},
		{">i", "", "i if:i i else l end", wrongType},
		{">i", "", "i if:i l else i end", wrongType},
		{">i", "", "i if:i nop else i end", wrongUnder},
		{">i", "", "i if:i i else nop end", wrongUnder},
		{">i", "", "i if:i i i else i end", wrongRest},
		{">i", "", "i if:i i else i i end", wrongRest},
		{">", "", "i if i else end", wrongRest},
		{">", "", "i if else i end", wrongRest},
		// What the Body leaves is not there in the Else.
		{">i", "", "i if:i i else drop i end", wrongUnder},
		{">l", "", "i if:i i else i end", wrongType},
	})
}

// Blocks in one another: values of an outer one are not there in an inner one; a block's result is a value of the outer one.
func TestNested(t *testing.T) {
	rows(t, home(), []row{
		{">i", "", "block:i block:i i end end", 1},
		{">i", "", "block:i i block:i i end #106 end", 2},
		{">i", "", "block:i i block:l l end drop end", 2},
		{">", "", "i l block f loop d block end drop end drop end drop drop", 4},
		{">", "", "i l block f loop d block i if l i #167 drop end end drop end drop end drop drop", wrongType},
		{">i", "", "i block:i i loop:i i i if:i i else i end #106 end #106 end #106", 4},
		{">i", "", "i block i block drop end drop end", wrongUnder},
		{">i", "", "block:i block:l l end end", wrongType},
		{">i", "", "block:i block:i i end block:i i end #106 end", 2},
		{">", "", "block block block block end end end end", 0},
		{">", "", "i if i if i if else end else i if end end end", 1},
		{">l", "", "i if:l i if:l l else l end else loop:l l end end", 1},
	})
}

// Branches out of one block and of several, out of a loop and back to its beginning.
func TestBranches(t *testing.T) {
	rows(t, home(), []row{
		{">", "", "br:0", 0},
		{">i", "", "i br:0", 1},
		{">i", "", "br:0", wrongUnder},
		{">i", "", "l br:0", wrongType},
		{">i", "", "l i br:0", 2},
		{">i", "", "l l i br:0", 3},
		{">", "", "block br:0 end", 0},
		{">", "", "i block br:0 end drop", 1},
		{">i", "", "block:i i br:0 end", 1},
		{">i", "", "block:i l i br:0 end", 2},
		{">i", "", "block:i l br:0 end", wrongType},
		{">i", "", "i block:i br:0 end", wrongUnder},
		{">i", "", "block i br:1 end i", 1},
		{">i", "", "block l br:1 end i", wrongType},
		{">i", "", "block br:1 end i", wrongUnder},
		{">l", "", "block:l block:i l br:1 end drop l end", 1},
		{">l", "", "block:l block:i i br:1 end drop l end", wrongType},
		{">l", "", "block:l block:i i br:0 end drop l end", 1},
		{">l", "", "block:f block:i l br:2 end drop f end drop l", 1},
		// A loop's label takes nothing.
		{">", "", "loop br:0 end", 0},
		{">i", "", "loop:i br:0 end", 1},
		{">i", "", "loop:i i br:0 end", 1},
		{">i", "", "loop:i l br:0 end", 1},
		{">i", "", "loop:i block br:1 end i end", 1},
		{">i", "", "loop:i block br:0 end i end", 1},
		{">i", "", "block:i loop i br:1 end i end", 1},
		{">i", "", "block:i loop br:1 end i end", wrongUnder},
		{">i", "", "block:i loop:l br:0 end drop i end", 1},
		// A label of an if is that of both of its lists.
		{">i", "", "i if:i i br:0 else i br:0 end", 1},
		{">i", "", "i if:i i br:1 else i br:1 end", 1},
		{">i", "", "i if:i l br:0 else i end", wrongType},
		{">i", "", "i if:i i else l br:0 end", wrongType},
		{">i", "", "i if:i i else br:0 end", wrongUnder},
		{">", "", "i if br:0 else br:1 end", 1},
		{">", "", "i if br:2 end", wrongLabel},
		{">", "", "i if else br:2 end", wrongLabel},
		// Labels of blocks that are closed are no more.
		{">", "", "block end br:1", wrongLabel},
		{">", "", "i if nop else nop end br:1", wrongLabel},
		{">", "", "block block end br:1 br:2 end", wrongLabel},
	})
}

// OpBrIf: its condition, then what its label takes, which is there behind it.
func TestBranchesIf(t *testing.T) {
	rows(t, home(), []row{
		{">", "", "i brif:0", 1},
		{">", "", "brif:0", wrongUnder},
		{">", "", "l brif:0", wrongType},
		{">i", "", "i i brif:0", 2},
		{">i", "", "i brif:0", wrongUnder},
		{">i", "", "l i brif:0", wrongType},
		{">i", "", "i l brif:0", wrongType},
		{">i", "", "i i brif:0 drop", wrongUnder},
		{">l", "", "l i brif:0 #80 drop l", 2},
		{">l", "", "l i brif:0 #69 drop l", wrongType},
		{">l", "", "i l i brif:0 drop drop l", 3},
		{">", "", "i loop:l i brif:0 l end drop drop", 2},
		{">i", "", "loop:i i brif:0 i end", 1},
		{">i", "", "loop:i i i brif:0 end", 2},
		{">i", "", "block:i i i brif:1 i brif:0 end", 2},
		{">i", "", "block:l i i brif:1 drop l i brif:0 end drop i", 2},
		{">i", "", "block:l i i brif:0 drop l end drop i", wrongType},
		{">", "", "block i brif:1 i brif:0 i brif:2 end", wrongLabel},
		// What stands behind may still be reached.
		{">", "", "i brif:0 drop", wrongUnder},
		{">i", "", "block:i i i brif:0 end #106", wrongUnder},
	})
}

// OpBrTable: all of its labels take the same.
func TestTables(t *testing.T) {
	rows(t, home(), []row{
		{">", "", "i table:0", 1},
		{">", "", "table:0", wrongUnder},
		{">", "", "l table:0", wrongType},
		{">i", "", "i i table:0", 2},
		{">i", "", "i table:0", wrongUnder},
		{">i", "", "l i table:0", wrongType},
		{">i", "", "i l table:0", wrongType},
		{">i", "", "l i i table:0,0,0", 3},
		{">i", "", "block:i i i table:0,1,0 end", 2},
		{">i", "", "block:i i i table:1 end", 2},
		{">i", "", "block:l i i table:1 end drop i", 2},
		{">i", "", "block:l i i table:0 end drop i", wrongType},
		{">i", "", "block:l i i table:0,1 end drop i", wrongType},
		{">i", "", "block:l i i table:1,0 end drop i", wrongType},
		{">", "", "block block block i table:0,1,2,3 end end end", 1},
		{">", "", "block block block i table:3,2,1,0,0,1,2,3 end end end", 1},
		{">i", "", "block:i loop i table:0 end i end", 1},
		{">i", "", "block:i loop i table:0,1 end i end", wrongType},
		{">i", "", "block:i loop i i table:1,2 end i end", 2},
		{">i", "", "block:i loop block i table:0,1 end end i end", 1},
		{">", "", "block i table:0,0,2 end", wrongLabel},
	})
}

// OpReturn takes what the function gives, wherever it stands.
func TestReturn(t *testing.T) {
	rows(t, home(), []row{
		{">", "", "return", 0},
		{">", "", "i return", 1},
		{">i", "", "i return", 1},
		{">i", "", "i i return", 2},
		{">i", "", "l i return", 2},
		{">i", "", "i l return", wrongType},
		{">i", "", "return", wrongUnder},
		{">i", "", "block:l i return end drop i", 1},
		{">i", "", "block:l l return end drop i", wrongType},
		{">l", "", "block block l return end i return end l", wrongType},
		{">i", "", "i block return end", wrongUnder},
		{">i", "", "loop i return end i", 1},
		{">i", "", "loop return end i", wrongUnder},
		{">", "", "block:i i i return end drop", 2},
		{">d", "", "i if:d d return else d d return end", 2},
	})
}

// OpDrop takes a value of any type, OpSelect two of one type.
func TestDropAndSelect(t *testing.T) {
	letters := []string{"i", "l", "f", "d"}
	for _, x := range letters {
		rows(t, home(), []row{
			{">", "", x + " drop", 1},
			{">", "", "block " + x + " end drop", wrongRest},
			{">", "", x + " " + x + " i select drop", 3},
			{">" + x, "", x + " " + x + " i select", 3},
			{">" + x, "", "d " + x + " " + x + " i select", wrongRest},
			{">", "", x + " i select", wrongUnder},
			{">", "", x + " block " + x + " i select end", wrongUnder},
		})
		for _, y := range letters {
			for _, z := range letters {
				rows(t, home(), []row{{">", "", x + " " + y + " " + z + " select drop", either(z == "i" && x == y, 3, wrongType)}})
				if z != x {
					rows(t, home(), []row{{">" + z, "", x + " " + x + " i select", wrongType}})
				}
			}
			// Of the condition it is asked first.
			if y != "i" {
				rows(t, home(), []row{{">", "", x + " " + y + " select drop", wrongType}, {">", "", y + " select drop", wrongType}})
			}
		}
	}
	rows(t, home(), []row{
		{">", "", "drop", wrongUnder},
		{">", "", "i drop drop", wrongUnder},
		{">", "", "i block drop end", wrongUnder},
		{">", "", "select", wrongUnder},
		{">", "", "i select", wrongUnder},
		{">i", "", "i i i select i i select i i select", 3},
	})
}

// The greatest number of values at one time is not that at the end, counts those of outer blocks, and not the locals.
func TestMost(t *testing.T) {
	rows(t, home(), []row{
		{">", "", "", 0},
		{"ilfd>", "ilfd", "nop", 0},
		{">", "", "i drop i drop i drop", 1},
		{">", "", "i i i drop drop drop i i drop drop", 3},
		{">", "", "i i drop drop i i i drop drop drop", 3},
		{">", "", "i i block i i i drop drop drop end drop drop", 5},
		{">", "", "i i block:i i end drop drop drop", 3},
		{">", "", "i i i if i else i i drop drop drop end drop drop", wrongRest},
		{">", "", "i i i if i drop else i i drop drop end drop drop", 4},
		{">", "", "i i i if i i drop drop else i drop end drop drop", 4},
		{">", "", "i i block i i i br:0 end i drop drop drop", 5},
		{">", "", "i i block i i i i br:0 i i drop drop end drop drop", 6},
		{">", "", "dead i i i", wrongRest},
		{">", "", "i i dead i i i drop drop drop", 3},
		{">", "", "i i i dead i i drop drop", 3},
		{">d", "", "call:2 drop call:2 call:2 drop", 2},
		{">i", "", "i i i i i i i i #106 #106 #106 #106 #106 #106 #106", 8},
		{">i", "", "i i #106 i #106 i #106 i #106", 2},
	})
	for _, n := range []int{1, 2, 31, 32, 33, 255, 256, 257, 1000} {
		ones := strings.Repeat(" i", n)
		rows(t, home(), []row{
			{">", "", ones + drops(n), n},
			{">i", "", ones + strings.Repeat(" #106", n-1), n},
			{">", "", ones + " block:l" + ones + " l return end drop" + drops(n), 2*n + 1},
			{">", "", ones + " return" + ones + drops(n), n},
		})
	}
}
