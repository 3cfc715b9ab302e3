// Package vals: which values may be, as chapter 10 says it; what the layers that take values share.
package vals

import (
	"pelorus/api"
	"pelorus/bits"
)

// IsType: whether a type is one of the four.
func IsType(t int) bool {
	switch t {
	case api.TypeI32, api.TypeI64, api.TypeF32, api.TypeF64:
		return true
	}
	return false
}

// MayBe: whether a value may be. All that an int may be are bits of 64.
func MayBe(v api.Val) bool {
	switch v.Type {
	case api.TypeI32, api.TypeF32:
		return bits.Low(v.Bits) == v.Bits
	}
	return IsType(v.Type)
}
