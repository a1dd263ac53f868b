package value

import (
	"cmp"
	"math"
	"slices"
	"strings"

	"colonnade/api"
)

// Compare tells which of two values stands ahead: below 0 the first one, above 0 the second one.
func Compare(f api.Field, a, b api.Value) (int, api.Errno) {
	if !mayBe(f) {
		return 0, api.ErrType
	}
	if !fits(f, a) || !fits(f, b) {
		return 0, api.ErrValue
	}
	return compare(f, a, b), api.OK
}

// compare tells the order of two values that fit.
func compare(f api.Field, a, b api.Value) int {
	if a.Null || b.Null {
		return compareNull(a, b)
	}
	switch t := f.Type; t.Kind {
	case api.Text, api.Bytes, api.Fixed:
		return strings.Compare(a.Text, b.Text)
	case api.List, api.Span:
		return compareItems(t.Fields[0], a.List, b.List)
	case api.Struct:
		return compareParts(t.Fields, a.List, b.List)
	case api.Choice:
		if a.Num == b.Num {
			return compare(t.Fields[a.Num], a.List[0], b.List[0])
		}
	case api.Dict, api.Runs:
		return compare(t.Fields[0], a, b)
	case api.Uint64:
		return cmp.Compare(uint64(a.Num), uint64(b.Num))
	case api.Float64:
		return cmp.Compare(rank(a.Num), rank(b.Num))
	}
	return cmp.Compare(a.Num, b.Num)
}

// compareNull tells the order of two values of which at least one is null.
func compareNull(a, b api.Value) int {
	switch {
	case !b.Null:
		return -1
	case !a.Null:
		return 1
	}
	return 0
}

// compareItems tells the order of two lists of one field's values.
func compareItems(f api.Field, a, b []api.Value) int {
	return slices.CompareFunc(a, b, func(x, y api.Value) int { return compare(f, x, y) })
}

// compareParts tells the order of two lists of a value a field.
func compareParts(fields []api.Field, a, b []api.Value) int {
	for i, f := range fields {
		if c := compare(f, a[i], b[i]); c != 0 {
			return c
		}
	}
	return 0
}

// rank tells a whole number that rises as floating-point numbers do: of those with the sign bit the other bits are turned, as they fall where these rise.
func rank(n int64) int64 {
	if n < 0 {
		return n ^ math.MaxInt64
	}
	return n
}
