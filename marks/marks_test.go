package marks

import "testing"

// Each number is the specification's: what the reader and the writer share, neither could tell the other of.
func TestMarks(t *testing.T) {
	if Head != "\x00asm\x01\x00\x00\x00" {
		t.Errorf("the head: %q", Head)
	}
	row := []int{CustomSection, TypeSection, ImportSection, FuncSection, TableSection, MemSection, GlobalSection, ExportSection, StartSection, ElemSection, CodeSection, DataSection}
	for want, id := range row {
		if id != want {
			t.Errorf("section %d: %d", want, id)
		}
	}
	if FuncByte != 0x60 || TableByte != 0x70 {
		t.Errorf("the bytes ahead of types and limits: %#x, %#x", FuncByte, TableByte)
	}
}
