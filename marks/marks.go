// Package marks: the numbers and bytes by which the binary form of a module is told, which its reader and its writer share
// (chapter 15).
package marks

// Head: what each module begins with: its mark, and version 1.
const Head = "\x00asm\x01\x00\x00\x00"

// The sections' numbers, in their row.
const (
	CustomSection = iota
	TypeSection
	ImportSection
	FuncSection
	TableSection
	MemSection
	GlobalSection
	ExportSection
	StartSection
	ElemSection
	CodeSection
	DataSection
)

// The bytes ahead of a function's type and of a table's limits.
const (
	FuncByte  = 0x60
	TableByte = 0x70
)
