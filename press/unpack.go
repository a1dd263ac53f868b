package press

import "colonnade/api"

// item is what one item lays down: bytes as they stand, and then so many again, each the one that stands back places ahead of it. (A run is its byte once, and again from 1 place ahead.)
type item struct {
	bytes       []byte
	again, back int
}

// lay lays the item's bytes behind what came out. They go one by one, as those that it lays itself are read again.
func (i item) lay(out []byte) []byte {
	out = append(out, i.bytes...)
	for range i.again {
		out = append(out, out[len(out)-i.back])
	}
	return out
}

// walk goes through the items, from the first on, and hands on each that is right. It tells how many bytes come out, which may be most.
func walk(how int, b []byte, most int, take func(item)) (int, api.Errno) {
	out := 0
	for len(b) > 0 {
		i, size := first(how, b)
		if size > len(b) {
			return 0, api.ErrPackCut
		}
		if i.back > out+len(i.bytes) {
			return 0, api.ErrPackBack
		}
		out += len(i.bytes) + i.again
		if out > most {
			return 0, api.ErrPackMore
		}
		take(i)
		b = b[size:]
	}
	return out, api.OK
}

// first tells the first item and how many bytes it takes; where these are more than there are, the item says nothing.
func first(how int, b []byte) (item, int) {
	c := int(b[0])
	size := sizeOf(how, c, len(b))
	switch {
	case size > len(b):
		return item{}, size
	case how == api.PressNone:
		return item{bytes: b}, size
	case c < firstOther:
		return item{bytes: b[1:size]}, size
	case how == api.PressRuns:
		return item{bytes: b[1:size], again: c - firstOther + leastRun - 1, back: 1}, size
	}
	return item{again: c - firstOther + leastBack, back: int(b[1]) + int(b[2])<<8 + 1}, size
}

// sizeOf tells how many of all bytes an item takes whose first one is c; what isn't packed is one item.
func sizeOf(how, c, all int) int {
	switch {
	case how == api.PressNone:
		return all
	case c < firstOther:
		return c + 2
	case how == api.PressRuns:
		return 2
	}
	return 3
}
