package cast

import (
	"math"

	"colonnade/api"
	"colonnade/value"
)

// numberOf tells the Num that a number of a kind has as one of another, if it is in its range; false: no Num is it.
func numberOf(from int, n int64, to int) (int64, bool) {
	switch {
	case from == to:
		// The bits of a floating-point number stay as they are, also where they are no number.
		return n, true
	case from == api.Float64:
		return cutOff(math.Float64frombits(uint64(n)), to)
	case to == api.Float64:
		return int64(math.Float64bits(nearest(from, n))), true
	}
	// A Num below 0 is of Uint64 a number that is above all that the others have, and of these one that Uint64 has not.
	return n, n >= 0 || from != api.Uint64 && to != api.Uint64
}

// nearest tells the floating-point number that is nearest to a whole one.
func nearest(from int, n int64) float64 {
	if from == api.Uint64 {
		return float64(uint64(n))
	}
	return float64(n)
}

// cutOff tells the Num of what stands ahead of a floating-point number's point. (Of what is no number no comparison holds.)
func cutOff(x float64, to int) (int64, bool) {
	x = math.Trunc(x)
	switch {
	case to == api.Uint64 && x >= 0 && x < 1<<64:
		return int64(uint64(x)), true
	case to != api.Uint64 && x >= -1<<63 && x < 1<<63:
		return int64(x), true
	}
	return 0, false
}

// fieldOf is a field of a kind of numbers that lets no null.
func fieldOf(k int) api.Field { return api.Field{Name: "n", Type: api.Type{Kind: k}} }

// written tells a number's text. (It is short: nothing can be wrong with it.)
func written(k int, n int64) string {
	text, _ := value.Print(fieldOf(k), api.Value{Num: n})
	return text
}

// read tells the number whose text it is.
func read(text string, k int) (int64, bool) {
	v, e, _ := value.Parse(fieldOf(k), text)
	return v.Num, e == api.OK
}
