// Package bits: see DOC.md, chapter 1.
package bits

import (
	mathbits "math/bits"

	"pelorus/api"
)

// Low: x modulo 2^32.
func Low(x int) int {
	return int(uint32(x))
}

// Sign: the low 32 bits of x as a number with sign.
func Sign(x int) int {
	return int(int32(uint32(x)))
}

// isWidth: whether numbers have that many bits.
func isWidth(width int) bool {
	return width == 32 || width == 64
}

// Clz: how many 0 stand above the highest 1 of the low width bits.
func Clz(x int, width int) (int, api.Errno) {
	if !isWidth(width) {
		return 0, api.ErrBitsForm
	}
	if width == 32 {
		return mathbits.LeadingZeros32(uint32(x)), api.OK
	}
	return mathbits.LeadingZeros64(uint64(x)), api.OK
}

// Ctz: how many 0 stand below the lowest 1 of the low width bits.
func Ctz(x int, width int) (int, api.Errno) {
	if !isWidth(width) {
		return 0, api.ErrBitsForm
	}
	if width == 32 {
		return mathbits.TrailingZeros32(uint32(x)), api.OK
	}
	return mathbits.TrailingZeros64(uint64(x)), api.OK
}

// Pop: how many 1 the low width bits have.
func Pop(x int, width int) (int, api.Errno) {
	if !isWidth(width) {
		return 0, api.ErrBitsForm
	}
	if width == 32 {
		return mathbits.OnesCount32(uint32(x)), api.OK
	}
	return mathbits.OnesCount64(uint64(x)), api.OK
}

// Rot: the low width bits rolled up by (by modulo width).
func Rot(x int, by int, width int) (int, api.Errno) {
	if !isWidth(width) {
		return 0, api.ErrBitsForm
	}
	// A width is a power of 2: the low bits of by are its rest from 0 on, of a negative number too.
	places := by & (width - 1)
	if width == 32 {
		return int(mathbits.RotateLeft32(uint32(x), places)), api.OK
	}
	return int(mathbits.RotateLeft64(uint64(x), places)), api.OK
}

// Below: whether a is less than b, both of 64 bits without sign.
func Below(a int, b int) bool {
	return uint64(a) < uint64(b)
}

// Div: the quotient and the rest of 64 bits without sign.
func Div(a int, b int) (int, int, api.Errno) {
	if b == 0 {
		return 0, 0, api.ErrBitsForm
	}
	return int(uint64(a) / uint64(b)), int(uint64(a) % uint64(b)), api.OK
}
