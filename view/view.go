// Package view: bytes looked into where they lie, and bytes laid down: see doc/01-view.md.
package view

import (
	"math/bits"

	"colonnade/api"
)

// View: bytes that are looked into where they lie.
type View struct {
	bytes []byte
	place int // where the first byte stands among those that Of was handed
	watch *Watch
}

// Of looks at bytes.
func Of(b []byte) View { return View{bytes: b} }

// Watched is the same view, whose reads are told to a watch (nil: to none).
func (v View) Watched(w *Watch) View {
	v.watch = w
	return v
}

// Len tells how many bytes there are.
func (v View) Len() int { return len(v.bytes) }

// Part is the view of n of the bytes.
func (v View) Part(from, n int) (View, api.Errno) {
	end, ok := v.end(from, n)
	if !ok {
		return View{}, api.ErrRange
	}
	return View{bytes: v.bytes[from:end], place: v.place + from, watch: v.watch}, api.OK
}

// Byte tells one byte.
func (v View) Byte(at int) (byte, api.Errno) {
	b, ok := v.read(at, 1)
	if !ok {
		return 0, api.ErrRange
	}
	return b[0], api.OK
}

// Load tells the number that stands in so many bytes.
func (v View) Load(at, width int) (uint64, api.Errno) {
	if !isWidth(width) {
		return 0, api.ErrArg
	}
	b, ok := v.read(at, width)
	if !ok {
		return 0, api.ErrRange
	}
	return lowestFirst(b), api.OK
}

// Signed tells it as a signed one.
func (v View) Signed(at, width int) (int64, api.Errno) {
	x, e := v.Load(at, width)
	if e != api.OK {
		return 0, e
	}
	// Pushed to the top and back, so that the number's highest bit counts as the sign.
	free := 64 - 8*width
	return int64(x<<free) >> free, api.OK
}

// Text tells n bytes as a text.
func (v View) Text(at, n int) (string, api.Errno) {
	b, ok := v.read(at, n)
	if !ok {
		return "", api.ErrRange
	}
	return string(b), api.OK
}

// Raw is the very bytes, with no room behind them.
func (v View) Raw() []byte {
	n := len(v.bytes)
	v.tell(0, n)
	return v.bytes[:n:n]
}

// Numbers tells n numbers of one width, one behind the other.
func Numbers[T ~uint8 | ~uint16 | ~uint32 | ~uint64](v View, from, n int) ([]T, api.Errno) {
	width := bits.Len64(uint64(^T(0))) / 8
	size, ok := Times(n, width)
	if !ok {
		return nil, api.ErrRange
	}
	b, ok := v.read(from, size)
	if !ok {
		return nil, api.ErrRange
	}
	l := make([]T, n)
	for i := range l {
		l[i] = T(lowestFirst(b[i*width : (i+1)*width]))
	}
	return l, api.OK
}

// end tells where n bytes from one on end, and whether they all lie in the view.
func (v View) end(from, n int) (int, bool) {
	end, ok := Sum(from, n)
	return end, ok && end <= len(v.bytes)
}

// read is the one way to bytes by their numbers, so that none is read untold.
func (v View) read(from, n int) ([]byte, bool) {
	end, ok := v.end(from, n)
	if !ok {
		return nil, false
	}
	v.tell(from, end)
	return v.bytes[from:end], true
}

// tell tells the watch of a read; one of no bytes is none.
func (v View) tell(from, to int) {
	if v.watch != nil && from < to {
		v.watch.reads = append(v.watch.reads, api.Read{From: v.place + from, To: v.place + to})
	}
}

// lowestFirst is the number in up to eight bytes.
func lowestFirst(b []byte) uint64 {
	var x uint64
	for i, c := range b {
		x |= uint64(c) << (8 * i)
	}
	return x
}

// isWidth tells whether a number may have so many bytes.
func isWidth(width int) bool {
	return width == 1 || width == 2 || width == 4 || width == 8
}

// Watch is told what is read.
type Watch struct {
	reads []api.Read
}

// NewWatch makes one that was told nothing.
func NewWatch() *Watch { return &Watch{} }

// Reads tells all reads so far.
func (w *Watch) Reads() []api.Read {
	l := make([]api.Read, len(w.reads))
	copy(l, w.reads)
	return l
}
