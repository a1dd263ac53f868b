package calc

import (
	"math"

	"colonnade/api"
)

// notANumber is the bits of whatever comes out and is no number.
const notANumber = 0x7ff8000000000000

// floating tells what an operation does with floating-point numbers.
func floating(op int) row {
	if op == api.OpNeg {
		return sure(turned)
	}
	do := floatOf(op)
	return sure(func(v []api.Value) api.Value {
		return fromFloat(do(toFloat(v[0]), toFloat(v[1])))
	})
}

// floatOf tells what an operation makes of two floating-point numbers.
func floatOf(op int) func(a, b float64) float64 {
	switch op {
	case api.OpAdd:
		return func(a, b float64) float64 { return a + b }
	case api.OpSub:
		return func(a, b float64) float64 { return a - b }
	case api.OpMul:
		return func(a, b float64) float64 { return a * b }
	}
	return func(a, b float64) float64 { return a / b }
}

// turned is a number with its sign bit turned. (Not 0 less it: that has no sign, if it is 0, and is always the same, if it is no number.)
func turned(v []api.Value) api.Value { return api.Value{Num: v[0].Num ^ math.MinInt64} }

// toFloat tells the number that a value's bits are.
func toFloat(v api.Value) float64 { return math.Float64frombits(uint64(v.Num)) }

// fromFloat tells the value of a number: which bits the machine gives to what is none doesn't matter.
func fromFloat(x float64) api.Value {
	if math.IsNaN(x) {
		return api.Value{Num: notANumber}
	}
	return api.Value{Num: int64(math.Float64bits(x))}
}
