package pick

import (
	"iter"

	"colonnade/api"
	"colonnade/array"
)

// What a number of a row may be beside one of an array's.
const (
	none   = -1          // it names no row, but a null
	beyond = api.MaxRows // it names a row that no array has
)

// named gives the numbers that an array of numbers has.
func named(index *array.Array) iter.Seq[int] {
	return func(yield func(int) bool) {
		for _, v := range index.All() {
			if !yield(numberOf(v)) {
				return
			}
		}
	}
}

// numberOf tells which row a value of an index names. The number -1 names none that is there, but no null either.
func numberOf(v api.Value) int {
	switch {
	case v.Null:
		return none
	case v.Num < 0 || v.Num >= beyond:
		return beyond
	}
	return int(v.Num)
}

// masked gives the numbers of the rows at which a mask is true. (The Num of a null is 0.)
func masked(mask *array.Array) iter.Seq[int] {
	return func(yield func(int) bool) {
		for i, v := range mask.All() {
			if v.Num == 1 && !yield(i) {
				return
			}
		}
	}
}

// upTo gives the numbers from 0 up to ahead of n.
func upTo(n int) iter.Seq[int] {
	return func(yield func(int) bool) {
		for i := range n {
			if !yield(i) {
				return
			}
		}
	}
}

// wrong tells what is wrong with the first number that can't be picked out of so many rows.
func wrong(numbers iter.Seq[int], rows int, nulls bool) api.Errno {
	for n := range numbers {
		if n < none || n >= rows {
			return api.ErrRange
		}
		if n == none && !nulls {
			return api.ErrValue
		}
	}
	return api.OK
}
