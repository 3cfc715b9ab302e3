// Package access: what each load and store has to do with, as chapter 8 says it; what the layers that ask for it share.
package access

import (
	"pelorus/api"
)

// Access: how many bytes are loaded or stored, and the type of their value; of a load, whether the bytes have a sign.
type Access struct {
	Size   int
	Type   int
	Signed bool
}

// all: the loads from OpLoad on, then the stores.
var all = [...]Access{
	{Size: 4, Type: api.TypeI32},               // i32.load
	{Size: 8, Type: api.TypeI64},               // i64.load
	{Size: 4, Type: api.TypeF32},               // f32.load
	{Size: 8, Type: api.TypeF64},               // f64.load
	{Size: 1, Type: api.TypeI32, Signed: true}, // i32.load8_s
	{Size: 1, Type: api.TypeI32},               // i32.load8_u
	{Size: 2, Type: api.TypeI32, Signed: true}, // i32.load16_s
	{Size: 2, Type: api.TypeI32},               // i32.load16_u
	{Size: 1, Type: api.TypeI64, Signed: true}, // i64.load8_s
	{Size: 1, Type: api.TypeI64},               // i64.load8_u
	{Size: 2, Type: api.TypeI64, Signed: true}, // i64.load16_s
	{Size: 2, Type: api.TypeI64},               // i64.load16_u
	{Size: 4, Type: api.TypeI64, Signed: true}, // i64.load32_s
	{Size: 4, Type: api.TypeI64},               // i64.load32_u
	{Size: 4, Type: api.TypeI32},               // i32.store
	{Size: 8, Type: api.TypeI64},               // i64.store
	{Size: 4, Type: api.TypeF32},               // f32.store
	{Size: 8, Type: api.TypeF64},               // f64.store
	{Size: 1, Type: api.TypeI32},               // i32.store8
	{Size: 2, Type: api.TypeI32},               // i32.store16
	{Size: 1, Type: api.TypeI64},               // i64.store8
	{Size: 2, Type: api.TypeI64},               // i64.store16
	{Size: 4, Type: api.TypeI64},               // i64.store32
}

// IsLoad: whether an operation is a load.
func IsLoad(op int) bool {
	return op >= api.OpLoad && op < api.OpStore
}

// IsStore: whether an operation is a store.
func IsStore(op int) bool {
	return op >= api.OpStore && op <= api.OpStoreLast
}

// Of: what a load or a store has to do with; nothing, if an operation is neither.
func Of(op int) Access {
	if !IsLoad(op) && !IsStore(op) {
		return Access{}
	}
	return all[op-api.OpLoad]
}
