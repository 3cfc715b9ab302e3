package flow

import (
	"strings"
	"testing"
)

// ends are the words behind which the rest of a block is never reached, in a function that gives nothing.
func ends() []string {
	return []string{"dead", "br:0", "return", "i table:0", "i table:0,0"}
}

// Each instruction that has one type, behind each of those: of the values that it takes the lower ones may be unknown.
func TestDeadPlain(t *testing.T) {
	for _, end := range ends() {
		least := strings.Count(end, "i table")
		for _, p := range plains() {
			all := drops(len(p.results))
			for k := range len(p.params) + 1 {
				known := " " + spaced(p.params[k:]) + " "
				most := max(least, len(p.params)-k, len(p.results))
				rows(t, home(), []row{
					{"ilfd>", "", end + known + p.word + all, most},
					{"ilfd>", "", "i l " + end + known + p.word + all, max(2+least, most)},
					{"ilfd>", "", "d f block " + end + known + p.word + all + " end drop drop", 2 + most},
				})
				if p.results != "" {
					rows(t, home(), []row{{"ilfd>", "", end + known + p.word, wrongRest}, {"ilfd>" + p.results, "", "dead" + known + p.word, max(len(p.params)-k, 1)}})
					for _, x := range others(p.results[0]) {
						rows(t, home(), []row{{"ilfd>" + x, "", "dead" + known + p.word, wrongType}})
					}
				}
			}
			for k := range len(p.params) {
				for _, x := range others(p.params[k]) {
					rows(t, home(), []row{{"ilfd>", "", end + " " + x + " " + spaced(p.params[k+1:]) + " " + p.word, wrongType}})
				}
			}
		}
	}
}

// What stands ahead in the block is let go; what stands in outer blocks is still there behind it.
func TestDeadValues(t *testing.T) {
	for _, end := range ends() {
		least := strings.Count(end, "i table")
		rows(t, home(), []row{
			{">", "", end, least},
			{">", "", end + " drop drop drop", least},
			{">", "", "i l f " + end, 3 + least},
			{">", "", "i l f " + end + " #106 drop", 3 + least},
			{">", "", "i l f " + end + " #106", wrongRest},
			{">", "", end + " i", wrongRest},
			{">", "", end + " i l", wrongRest},
			{">", "", "i block " + end + " end drop", 1 + least},
			{">", "", "i block l " + end + " end #69 drop", 2 + least},
			{">", "", "i block l " + end + " end #80 drop", wrongType},
			{">", "", "i block " + end + " end", wrongRest},
			{">", "", "i block " + end + " drop end drop drop", wrongUnder},
			// A block within does not know it, and it goes on behind one.
			{">", "", end + " block drop end", wrongUnder},
			{">", "", end + " loop #106 drop end", wrongUnder},
			{">", "", end + " if drop end", wrongUnder},
			{">", "", end + " if else drop end", wrongUnder},
			{">", "", end + " block:i end drop", wrongUnder},
			{">", "", end + " if end", least},
			{">", "", end + " l if end", wrongType},
			{">", "", end + " i if end", max(1, least)},
			{">", "", end + " block end drop #106 drop", max(1, least)},
			{">", "", end + " block:i i end #106 drop", max(1, least)},
			{">", "", end + " block:l l end #106 drop", wrongType},
			// It ends with its block.
			{">", "", "block " + end + " end drop", wrongUnder},
			{">", "", "loop " + end + " end drop", wrongUnder},
			{">", "", "i if " + end + " end drop", wrongUnder},
			{">", "", "i if " + end + " else drop end", wrongUnder},
			{">", "", "i if else " + end + " end drop", wrongUnder},
			{">", "", "i if " + end + " drop else " + end + " drop end", 1},
			{">", "", "block block " + end + " end drop end", wrongUnder},
			{">", "", "block " + end + " block " + end + " end drop end", least},
			{">", "", "block " + end + " block " + end + " end drop end drop", wrongUnder},
			// Behind it there may be a second one.
			{">", "", end + " " + end + " drop", least},
			{">", "", end + " i i i " + end + " l drop drop", 3 + least},
		})
	}
}

// What a block is to give may be unknown; it is known behind the block.
func TestDeadResults(t *testing.T) {
	for _, x := range []string{"i", "l", "f", "d"} {
		rows(t, home(), []row{
			{">" + x, "", "dead", 0},
			{">" + x, "", "dead " + x, 1},
			{">" + x, "", "dead " + x + " " + x, wrongRest},
			{">" + x, "", x + " br:0", 1},
			{">" + x, "", x + " return drop", 1},
			{">" + x, "", x + " i table:0", 2},
			{">" + x, "", "block:" + x + " dead end", 1},
			{">" + x, "", "block:" + x + " dead " + x + " end", 1},
			{">" + x, "", "loop:" + x + " br:0 end", 1},
			{">" + x, "", "block:" + x + " " + x + " br:0 end", 1},
			{">" + x, "", "block:" + x + " " + x + " return end", 1},
			{">" + x, "", "i if:" + x + " dead else dead end", 1},
			{">" + x, "", "i if:" + x + " dead else " + x + " end", 1},
			{">" + x, "", "i if:" + x + " " + x + " else dead end", 1},
			{">" + x, "", "i if:" + x + " dead end", wrongType},
			{">" + x, "", "dead if:" + x + " dead else nop end", wrongUnder},
			{">" + x, "", "dead drop drop", 0},
		})
		for _, y := range others(x[0]) {
			rows(t, home(), []row{
				{">" + x, "", "dead " + y, wrongType},
				{">" + x, "", "dead " + x + " " + y, wrongType},
				{">" + x, "", "dead " + y + " " + x, wrongRest},
				{">" + x, "", "block:" + x + " dead " + y + " end", wrongType},
				{">" + x, "", "block:" + y + " dead end", wrongType},
				{">" + x, "", "dead block:" + y + " dead end", wrongType},
				{">" + x, "", "i if:" + x + " dead else dead " + y + " end", wrongType},
			})
		}
	}
}

// Branches behind one: what they take may be unknown, what OpBrIf gives is known.
func TestDeadBranches(t *testing.T) {
	rows(t, home(), []row{
		{">i", "", "dead br:0", 0},
		{">i", "", "dead i br:0", 1},
		{">i", "", "dead l br:0", wrongType},
		{">i", "", "dead return", 0},
		{">i", "", "dead l return", wrongType},
		{">i", "", "dead brif:0", 1},
		{">i", "", "dead i brif:0", 1},
		{">i", "", "dead i i brif:0", 2},
		{">i", "", "dead l i brif:0", wrongType},
		{">i", "", "dead l brif:0", wrongType},
		{">i", "", "dead brif:0 #69", 1},
		{">i", "", "dead brif:0 #80", wrongType},
		{">i", "", "dead brif:0 br:0", 1},
		{">i", "", "block:l dead brif:0 brif:1 end drop i", wrongType},
		{">i", "", "block:l dead brif:0 drop brif:1 end drop i", wrongType},
		{">i", "", "block:l dead brif:0 drop brif:1 drop end drop i", 1},
		{">i", "", "dead table:0", 0},
		{">i", "", "dead i table:0", 1},
		{">i", "", "dead l table:0", wrongType},
		{">i", "", "dead l i table:0", wrongType},
		{">i", "", "dead i i table:0", 2},
		{">i", "", "block:l dead table:0,1 end drop i", wrongType},
		{">i", "", "block:l dead table:2,1 end drop i", wrongLabel},
		{">i", "", "block:i dead table:0,1 end", 1},
		{">", "", "dead br:1", wrongLabel},
		{">", "", "dead brif:1", wrongLabel},
		{">", "", "dead get:0", wrongIndex},
		{">", "", "dead gset:0", wrongMut},
		{">", "", "dead #40:3 drop", wrongAlign},
		{">", "", "dead call:9", wrongIndex},
		{">", "", "dead indirect:9", wrongIndex},
	})
}

// OpDrop and OpSelect behind one: of an unknown type and a known one the known, of two unknown ones unknown.
func TestDeadSelect(t *testing.T) {
	letters := []string{"i", "l", "f", "d"}
	// What takes a value of one type each, and gives none.
	uses := map[string]string{"i": "i #54", "l": "#167 drop", "f": "#188 drop", "d": "#189 drop"}
	for _, x := range letters {
		known := []row{
			{">" + x, "", "dead " + x + " i select", 2},
			{">" + x, "", "dead select", 1},
			{">" + x, "", "dead i select", 1},
			{">" + x, "", "dead " + x + " " + x + " i select", 3},
			{">" + x, "", "dead select select", 1},
			// The one below is known, that above it is not.
			{">" + x, "", "dead " + x + " drop select", 1},
			{">" + x, "", "dead " + x + " select", either(x == "i", 1, wrongType)},
			{">", "", "dead select drop", 1},
			{">", "", "dead select drop drop", 1},
			{">", "", "dead select", wrongRest},
			{">", "", "dead " + x + " i select", wrongRest},
			// A value of an unknown type on top of a known one: the known one's type.
			{">" + x, "", "dead select " + x + " i select", 3},
			{">" + x, "", "dead " + x + " i select " + x + " i select", 3},
		}
		rows(t, home(), known)
		for _, y := range letters {
			is := func(most int) int { return either(x == y, most, wrongType) }
			rows(t, home(), []row{
				{">" + y, "", "dead " + x + " i select", is(2)},
				{">" + y, "", "dead " + x + " " + y + " i select drop dead", is(3)},
				// It was given, and is there still: unknown, then known.
				{">", "", "dead select " + uses[y], 1 + strings.Count(uses[y], "i #54")},
				{">", "", "dead " + x + " i select " + uses[y], is(2)},
				{">", "", "dead " + x + " select " + uses[y], either(x == "i", 1+strings.Count(uses[y], "i #54"), wrongType)},
				{">", "", "dead select " + x + " i select " + uses[y], is(3)},
				{">", "", "dead " + x + " dead select " + uses[y], 1 + strings.Count(uses[y], "i #54")},
			})
		}
		// The condition.
		for _, y := range others('i') {
			rows(t, home(), []row{{">" + x, "", "dead " + y + " select", wrongType}, {">" + x, "", "dead " + x + " " + y + " select", wrongType}})
		}
	}
	rows(t, home(), []row{
		{">", "", "dead i select i select drop", 2},
		{">", "", "dead block select end", wrongUnder},
		{">", "", "dead block drop end", wrongUnder},
		{">", "", "dead block dead select drop end", 1},
		{">i", "", "dead l i select #167", 2},
		{">i", "", "dead select #167", 1},
	})
}

// A value of an unknown type that OpSelect gave, below and above known ones, is unlike all numbers of types.
func TestUnknownStays(t *testing.T) {
	for _, p := range plains() {
		for k := range len(p.params) {
			below := " " + strings.TrimSpace(spaced(p.params[k+1:])+" "+p.word) + drops(len(p.results))
			rows(t, home(), []row{{"ilfd>", "", "dead select" + below, max(len(p.params)-k, len(p.results), 1)}})
			if k > 0 {
				front := "dead " + spaced(p.params[:k])
				// What stood ahead of a second end is gone.
				rows(t, home(), []row{{"ilfd>", "", front + " dead select" + below, max(k, len(p.params)-k, len(p.results), 1)}})
			}
		}
	}
	rows(t, home(), []row{
		{">", "", "dead select #69 drop", 1},
		{"i>", "", "dead select tee:0 tee:0 drop", 1},
		{"l>", "", "dead select tee:0 #69 drop", wrongType},
		{">", "", "dead select drop select drop select drop", 1},
		// Of two values one is known.
		{">", "", "dead select l l #124 drop drop", 3},
		{">", "", "dead select l #124 drop drop", 2},
		{">", "", "dead select i #124 drop", wrongType},
	})
}
