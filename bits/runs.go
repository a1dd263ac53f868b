package bits

import (
	"iter"
	"slices"

	"colonnade/api"
)

// Runs gives the rows of neighbouring 1s among n bits from a place on: where each begins, how many they are.
func Runs(b []byte, from, n int) iter.Seq2[int, int] {
	if refused(b, from, n) != api.OK {
		return func(func(int, int) bool) {}
	}
	// Copied now, as the caller may write into b before the runs are gone through.
	kept := slices.Clone(b[from/8 : Need(from+n)])
	first := from % 8
	end := first + n
	return func(yield func(int, int) bool) {
		at := find(kept, first, end, true)
		for at < end {
			behind := find(kept, at, end, false)
			if !yield(at-first, behind-at) {
				return
			}
			at = find(kept, behind, end, true)
		}
	}
}

// Count tells how many of n bits from a place on are 1.
func Count(b []byte, from, n int) (int, api.Errno) {
	if e := refused(b, from, n); e != api.OK {
		return 0, e
	}
	sum := 0
	for _, long := range Runs(b, from, n) {
		sum += long
	}
	return sum, api.OK
}

// Place tells where the k-th 1 among n bits from a place on stands.
func Place(b []byte, from, n, k int) (int, api.Errno) {
	if k < 0 {
		return 0, api.ErrArg
	}
	if e := refused(b, from, n); e != api.OK {
		return 0, e
	}
	for at, long := range Runs(b, from, n) {
		if k < long {
			return at + k, api.OK
		}
		k -= long
	}
	return 0, api.ErrRange
}

// Next tells the first bit among n from a place on that is 1 (or 0); -1: none.
func Next(b []byte, from, n int, on bool) int {
	if refused(b, from, n) != api.OK {
		return -1
	}
	end := from + n
	at := find(b, from, end, on)
	if at == end {
		return -1
	}
	return at - from
}

// find tells the first bit from a place on, ahead of the end, that is 1 (or 0); the end: none.
func find(b []byte, at, end int, on bool) int {
	for at < end {
		switch {
		case at%8 == 0 && !holds(b[at/8], on):
			at += 8
		case isOn(b, at) == on:
			return at
		default:
			at++
		}
	}
	// A byte that was passed over whole may reach beyond the end.
	return end
}

// holds tells whether a byte has a bit that is 1 (or 0), so that one without is passed over whole.
func holds(c byte, on bool) bool {
	if on {
		return ones(c) > 0
	}
	return ones(c) < 8
}
