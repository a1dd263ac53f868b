package file

import (
	"bytes"
	"slices"

	"colonnade/api"
	"colonnade/frame"
)

// mark is what a file begins with, and ends with.
const mark = "COLFILE1"

// How many bytes the parts of a file have.
const (
	numberSize = 4
	entrySize  = 6 * numberSize
	leastFoot  = 2 * numberSize // without entries and extra bytes
	tailSize   = 3*numberSize + len(mark)
	headSize   = 24 // what stands in a message ahead of its metadata
	unit       = 8  // of what its metadata and its body fill a whole number
)

// The sum of no bytes, and by what it is multiplied at each one.
const (
	sumOfNone = 2166136261
	sumTimes  = 16777619
)

// entry is what the foot says of a message.
type entry struct {
	kind, at, meta, body, rows, last int
}

// bodyAt is the place of an entry's body.
func (e entry) bodyAt() int { return e.at + headSize + padded(e.meta) }

// end is the place where an entry's message ends.
func (e entry) end() int { return e.bodyAt() + padded(e.body) }

// fits tells whether an entry is one that may be the k-th, behind so many batches, where the message ahead of it ends at a place.
func (e entry) fits(k, at, batches int) bool {
	if e.at != at || e.meta > api.MaxMeta || e.body > api.MaxBody || e.last != 0 {
		return false
	}
	switch e.kind {
	case api.HeadSchema:
		return k == 0 && e.rows == 0
	case api.HeadDict:
		return k > 0 && e.rows == 0
	case api.HeadBatch:
		return k > 0 && e.rows <= api.MaxRows && batches < api.MaxBatches
	}
	return false
}

func padded(n int) int { return (n + unit - 1) / unit * unit }

// sum is chapter 7's.
func sum(b []byte) int {
	s := uint32(sumOfNone)
	for _, c := range b {
		s = (s ^ uint32(c)) * sumTimes
	}
	return int(s)
}

// numbers tells a function that tells the numbers of bytes, at each call the next one: it keeps its place.
func numbers(b []byte) func() int {
	return func() int {
		n := uint32(b[0]) | uint32(b[1])<<8 | uint32(b[2])<<16 | uint32(b[3])<<24
		b = b[numberSize:]
		return int(n)
	}
}

// against is the number that stands behind another one, so that whoever reads them can tell whether they are what was written: 2^32 - 1 less that one.
func against(n int) int { return int(^uint32(n)) }

// withNumbers lays numbers behind bytes.
func withNumbers(b []byte, l ...int) []byte {
	for _, n := range l {
		b = append(b, byte(n), byte(n>>8), byte(n>>16), byte(n>>24))
	}
	return b
}

// footOf tells a foot, and the tail behind it.
func footOf(entries []entry, extra []byte) []byte {
	b := withNumbers(nil, len(entries))
	for _, e := range entries {
		b = withNumbers(b, e.kind, e.at, e.meta, e.body, e.rows, e.last)
	}
	b = append(withNumbers(b, len(extra)), extra...)
	b = withNumbers(b, len(b), against(len(b)), sum(b))
	return append(b, mark...)
}

// footIn tells where the foot of a file begins, and where it ends and the tail begins.
func footIn(b []byte) (from, to int, x api.Fault) {
	tail := len(b) - tailSize
	if tail < len(mark) || string(b[:len(mark)]) != mark {
		return 0, 0, api.Fault{Err: api.ErrFoot}
	}
	next := numbers(b[tail:])
	size, rest, total := next(), next(), next()
	foot := tail - size
	if string(b[len(b)-len(mark):]) != mark || rest != against(size) || size < leastFoot || foot < len(mark) || total != sum(b[foot:tail]) {
		return 0, 0, api.Fault{Err: api.ErrFoot, At: tail}
	}
	return foot, tail, api.Fault{}
}

// readFoot tells the entries and the extra bytes of a foot, in memory of their own; false: it has not just the bytes that its numbers say.
func readFoot(b []byte) ([]entry, []byte, bool) {
	next := numbers(b)
	n := next()
	if n > (len(b)-leastFoot)/entrySize {
		return nil, nil, false
	}
	entries := make([]entry, n)
	for k := range entries {
		entries[k] = entry{kind: next(), at: next(), meta: next(), body: next(), rows: next(), last: next()}
	}
	extra := b[leastFoot+n*entrySize:]
	if next() != len(extra) || len(extra) > api.MaxMeta {
		return nil, nil, false
	}
	return entries, slices.Clone(extra), true
}

// misfit tells the number of the first entry that does not fit; how many there are, if behind the last one's message, up to the foot, there is not the end alone; -1, if all fit.
func misfit(aheadOfFoot []byte, entries []entry) int {
	at, batches := len(mark), 0
	for k, e := range entries {
		if !e.fits(k, at, batches) {
			return k
		}
		if e.kind == api.HeadBatch {
			batches++
		}
		at = e.end()
	}
	if len(entries) == 0 || at > len(aheadOfFoot) || !bytes.Equal(aheadOfFoot[at:], frame.Close()) {
		return len(entries)
	}
	return -1
}
