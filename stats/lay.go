package stats

import "colonnade/api"

// How many bytes things have, as a stat is laid.
const (
	countWidth  = 4 // Rows, Nulls
	markWidth   = 1 // Has, and how many bytes a text has
	numberWidth = 8
)

// laid tells bytes with a stat of a plain kind behind them.
func laid(b []byte, k int, x api.Stat) []byte {
	b = number(b, uint64(x.Rows), countWidth)
	b = number(b, uint64(x.Nulls), countWidth)
	if !x.Has {
		return number(b, 0, markWidth)
	}
	b = number(b, 1, markWidth)
	for _, v := range []api.Value{x.Least, x.Most} {
		if isText(k) {
			b = number(b, uint64(len(v.Text)), markWidth)
			b = append(b, v.Text...)
		} else {
			b = number(b, uint64(v.Num), numberWidth)
		}
	}
	return b
}

// number tells bytes with a number behind them, its lowest byte first.
func number(b []byte, n uint64, width int) []byte {
	for i := range width {
		b = append(b, byte(n>>(8*i)))
	}
	return b
}

// read reads the stats of a schema's columns out of bytes, or gives up. (There is one way to lay a stat: so what is read whole was laid so.)
func read(s api.Schema, b []byte) []api.Stat {
	r := reader{b}
	var l []api.Stat
	for _, f := range s.Fields {
		l = append(l, r.stat(plainKind(f)))
	}
	if len(r.rest) > 0 {
		giveUp()
	}
	return l
}

// reader is bytes of which the first ones are read.
type reader struct{ rest []byte }

// take reads some bytes.
func (r *reader) take(n int) []byte {
	if n > len(r.rest) {
		giveUp()
	}
	b := r.rest[:n]
	r.rest = r.rest[n:]
	return b
}

// number reads a number.
func (r *reader) number(width int) uint64 {
	var n uint64
	for i, c := range r.take(width) {
		n |= uint64(c) << (8 * i)
	}
	return n
}

// stat reads a stat of a field of a plain kind.
func (r *reader) stat(k int) api.Stat {
	x := api.Stat{Rows: int(r.number(countWidth)), Nulls: int(r.number(countWidth))}
	switch r.number(markWidth) {
	case 0:
	case 1:
		x.Has, x.Least, x.Most = true, r.bound(k), r.bound(k)
	default:
		giveUp()
	}
	if !isStat(k, x) {
		giveUp()
	}
	return x
}

// bound reads a bound.
func (r *reader) bound(k int) api.Value {
	if isText(k) {
		return api.Value{Text: string(r.take(int(r.number(markWidth))))}
	}
	return api.Value{Num: int64(r.number(numberWidth))}
}
