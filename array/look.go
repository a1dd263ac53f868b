package array

import (
	"bytes"

	"colonnade/api"
	"colonnade/view"
)

// weightOfOne is what a value weighs beside its text and its list.
const weightOfOne = 16

// noValue is what a row that has no value gives up with.
type noValue struct{}

// caught does what may give up at a row that has no value.
func caught(do func()) (e api.Errno) {
	defer func() {
		switch p := recover().(type) {
		case nil:
		case noValue:
			e = api.ErrValue
		default:
			panic(p)
		}
	}()
	do()
	return api.OK
}

// look is a reading of rows: who is told of it, and how much weight the values may still have. The weight bounds how many rows are read, as whoever writes into the bytes may have one named again and again.
type look struct {
	watch *view.Watch
	left  int
}

// take takes a weight off what is left.
func (l *look) take(weight int) {
	l.left -= weight
	if l.left < 0 {
		panic(noValue{})
	}
}

// value tells a node's own row of a number, its Offset beside.
func (l *look) value(n *node, own int) api.Value {
	r := n.offset + own
	if l.isOff(n, r) {
		l.take(weightOfOne)
		return api.Value{Null: true}
	}
	return n.how.read(l, n, r)
}

// values tells a node's own rows from one up to ahead of another.
func (l *look) values(n *node, from, to int) []api.Value {
	if (to-from)*weightOfOne > l.left {
		// Told ahead of making room that would never be filled.
		panic(noValue{})
	}
	list := make([]api.Value, to-from)
	for i := range list {
		list[i] = l.value(n, from+i)
	}
	return list
}

// itemsOf tells which of the items' own rows those of a node's own row are.
func (l *look) itemsOf(n *node, own int) (from, to int) {
	r := n.offset + own
	if l.isOff(n, r) {
		panic(noValue{})
	}
	return l.items(n, r)
}

// items tells the same of row r, which isn't null: of a Span just Width rows, whatever the bytes say.
func (l *look) items(n *node, r int) (from, to int) {
	if width := n.field.Type.Width; n.kind() == api.Span {
		return r * width, (r + 1) * width
	}
	return l.bounds(n, r, n.parts[0].length)
}

// isNull tells whether a node's own row is null: of Runs the row of the values.
func (l *look) isNull(n *node, own int) bool {
	for n.kind() == api.Runs {
		n, own = n.parts[1], l.run(n, n.offset+own)
	}
	return n.kind() == api.Null || l.isOff(n, n.offset+own)
}

// isOff tells whether a validity says that row r is null.
func (l *look) isOff(n *node, r int) bool {
	return n.masked() && n.buffers[0].Len() > 0 && !l.bit(n, 0, r)
}

// buffer is a node's buffer, each read of which is told.
func (l *look) buffer(n *node, k int) view.View { return n.buffers[k].Watched(l.watch) }

// bit tells bit r of a buffer. (That it is there, here and below, was seen to when the array was opened.)
func (l *look) bit(n *node, k, r int) bool {
	b, _ := l.buffer(n, k).Byte(r / 8)
	return b>>(r%8)&1 == 1
}

// offset tells the offset number r, which stands in the second buffer of all kinds that have offsets.
func (l *look) offset(n *node, r int) int {
	x, _ := l.buffer(n, 1).Signed(4*r, 4)
	return int(x)
}

// bounds tells where row r begins and ends by its offsets, if these lie among so many.
func (l *look) bounds(n *node, r, most int) (from, to int) {
	from, to = l.offset(n, r), l.offset(n, r+1)
	if from < 0 || to < from || to > most {
		panic(noValue{})
	}
	return from, to
}

// run tells in which run row r lies: the first one whose end is above it. They are gone through one by one, as ends that were written into need not rise.
func (l *look) run(n *node, r int) int {
	b := l.ends(n)
	for k := range len(b) / 4 {
		if endAt(b, k) > r {
			return k
		}
	}
	panic(noValue{})
}

// ends is the bytes of a node's ends.
func (l *look) ends(n *node) []byte {
	p := n.parts[0]
	v, _ := l.buffer(p, 1).Part(4*p.offset, 4*p.length)
	return v.Raw()
}

// endAt tells end number k.
func endAt(b []byte, k int) int {
	b = b[4*k : 4*k+4]
	return int(int32(uint32(b[0]) | uint32(b[1])<<8 | uint32(b[2])<<16 | uint32(b[3])<<24))
}

// data tells a node as it was handed in, with the bytes as they are now.
func (l *look) data(n *node) api.Data {
	d := api.Data{Length: n.length, Offset: n.offset, Nulls: n.nulls}
	for k := range n.buffers {
		d.Buffers = append(d.Buffers, bytes.Clone(l.buffer(n, k).Raw()))
	}
	for _, p := range n.parts {
		if n.kind() == api.Dict {
			d.Dict = append(d.Dict, l.data(p))
		} else {
			d.Children = append(d.Children, l.data(p))
		}
	}
	return d
}
