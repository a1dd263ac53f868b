package calc

import "colonnade/api"

// whole are the whole numbers, as the language has them: they wrap round where the exact answer is none of theirs, and by that it is seen.
type whole interface {
	int8 | int16 | int32 | int64 | uint8 | uint16 | uint32 | uint64
}

// reckoning tells what an operation does with numbers of a kind.
func reckoning(op, k int) row {
	switch k {
	case api.Int8:
		return reckoningOf[int8](op)
	case api.Int16:
		return reckoningOf[int16](op)
	case api.Int32:
		return reckoningOf[int32](op)
	case api.Int64:
		return reckoningOf[int64](op)
	case api.Uint8:
		return reckoningOf[uint8](op)
	case api.Uint16:
		return reckoningOf[uint16](op)
	case api.Uint32:
		return reckoningOf[uint32](op)
	case api.Uint64:
		return reckoningOf[uint64](op)
	}
	return floating(op)
}

// reckoningOf is the same for one kind of whole numbers.
func reckoningOf[T whole](op int) row {
	do := wholeOf[T](op)
	return func(v []api.Value) (api.Value, api.Errno) {
		a, b := int64(0), v[0].Num
		if op != api.OpNeg {
			a, b = v[0].Num, v[1].Num
		}
		n, e := do(T(a), T(b))
		return api.Value{Num: int64(n)}, e
	}
}

// wholeOf tells what an operation makes of two whole numbers; OpNeg has 0 as the first one.
func wholeOf[T whole](op int) func(a, b T) (T, api.Errno) {
	switch op {
	case api.OpAdd:
		return sum[T]
	case api.OpSub, api.OpNeg:
		return difference[T]
	case api.OpMul:
		return product[T]
	case api.OpDiv:
		return quotient[T]
	}
	return remainder[T]
}

// exactly tells a number, if it has not wrapped round.
func exactly[T whole](n T, ok bool) (T, api.Errno) {
	if !ok {
		return 0, api.ErrOverflow
	}
	return n, api.OK
}

// sum is below the first one just if the second one is below 0, but where it wraps round.
func sum[T whole](a, b T) (T, api.Errno) {
	n := a + b
	return exactly(n, (n < a) == (b < 0))
}

// difference is above the first one just if the second one is below 0, but where it wraps round.
func difference[T whole](a, b T) (T, api.Errno) {
	n := a - b
	return exactly(n, (n > a) == (b < 0))
}

// product divided by each of the two is the other one, but where it wraps round. (One of them is not enough: the least number divided by -1 wraps round, too.)
func product[T whole](a, b T) (T, api.Errno) {
	n := a * b
	return exactly(n, (a == 0 || n/a == b) && (b == 0 || n/b == a))
}

// quotient wraps round at the least number by -1 alone: then it is below 0, as both are.
func quotient[T whole](a, b T) (T, api.Errno) {
	if b == 0 {
		return 0, api.ErrZero
	}
	n := a / b
	return exactly(n, !(a < 0 && b < 0 && n < 0))
}

// remainder never wraps round: of the least number by -1 it is 0.
func remainder[T whole](a, b T) (T, api.Errno) {
	if b == 0 {
		return 0, api.ErrZero
	}
	return a % b, api.OK
}
