package vm

import (
	"staithe/api"
	"staithe/value"
)

// What instructions make of the values that they take off: of numbers,
// int64 goes round by itself as the chapter asks.

func sum(v operands) api.Value        { return value.Int(v[0].Int + v[1].Int) }
func difference(v operands) api.Value { return value.Int(v[0].Int - v[1].Int) }
func product(v operands) api.Value    { return value.Int(v[0].Int * v[1].Int) }
func less(v operands) api.Value       { return truth(v[0].Int < v[1].Int) }
func equal(v operands) api.Value      { return truth(value.Same(v[0], v[1])) }
func joined(v operands) api.Value     { return value.Bytes(v[0].Bytes + v[1].Bytes) }
func length(v operands) api.Value     { return value.Int(int64(len(v[0].Bytes))) }
func byteAt(v operands) api.Value     { return value.Int(value.At(v[0].Bytes, v[1].Int)) }
func piece(v operands) api.Value      { return value.Bytes(value.Cut(v[0].Bytes, v[1].Int, v[2].Int)) }
func digits(v operands) api.Value     { return value.Bytes(value.Digits(v[0].Int)) }
func numeral(v operands) api.Value    { return value.Int(value.Number(v[0].Bytes)) }

func truth(is bool) api.Value {
	if is {
		return value.Int(1)
	}
	return value.Int(0)
}
