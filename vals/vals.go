// Package vals: which values may be, as chapter 10 says it, and the types of constants; what the layers that take values share.
package vals

import (
	"pelorus/api"
	"pelorus/bits"
)

// IsType: whether a type is one of the four.
func IsType(t int) bool {
	switch t {
	case api.TypeI32, api.TypeI64, api.TypeF32, api.TypeF64:
		return true
	}
	return false
}

// ConstType: the type of a constant, by its operation; TypeNone of an operation that is none. The constants stand in the row of
// the types, which goes downwards.
func ConstType(op int) int {
	if op < api.OpI32Const || op > api.OpF64Const {
		return api.TypeNone
	}
	return api.TypeI32 - (op - api.OpI32Const)
}

// MayBe: whether a value may be. All that an int may be are bits of 64.
func MayBe(v api.Val) bool {
	switch v.Type {
	case api.TypeI32, api.TypeF32:
		return bits.Low(v.Bits) == v.Bits
	}
	return IsType(v.Type)
}
