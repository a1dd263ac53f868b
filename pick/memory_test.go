package pick

import (
	"bytes"
	"slices"
	"testing"

	"colonnade/api"
	"colonnade/kind"
)

// roomy is the same array, with room behind all its lists that is not empty.
func roomy(d api.Data) api.Data {
	x := api.Data{Length: d.Length, Offset: d.Offset, Nulls: d.Nulls}
	for _, b := range d.Buffers {
		b = append(slices.Clone(b), "room behind bytes"...)
		x.Buffers = append(x.Buffers, b[:len(b)-17])
	}
	x.Buffers = append(x.Buffers, []byte("room"))[:len(d.Buffers)]
	x.Children, x.Dict = roomyAll(d.Children), roomyAll(d.Dict)
	return x
}

func roomyAll(l []api.Data) []api.Data {
	var x []api.Data
	for _, d := range l {
		x = append(x, roomy(d))
	}
	return append(x, api.Data{Length: 77})[:len(l)]
}

// whole is an array with the room behind its lists as if it were theirs, in memory of its own.
func whole(d api.Data) api.Data {
	x := api.Data{Length: d.Length, Offset: d.Offset, Nulls: d.Nulls}
	for _, b := range d.Buffers[:cap(d.Buffers)] {
		x.Buffers = append(x.Buffers, bytes.Clone(b[:cap(b)]))
	}
	x.Children, x.Dict = wholeAll(d.Children), wholeAll(d.Dict)
	return x
}

func wholeAll(l []api.Data) []api.Data {
	var x []api.Data
	for _, d := range l[:cap(l)] {
		x = append(x, whole(d))
	}
	return x
}

// marks writes into all lists of arrays, their spare room too, each its own mark; told again it looks whether all are there still.
type marks struct {
	n    int
	seen bool // it looks
	lost int
}

func (m *marks) next() int {
	m.n++
	return m.n
}

func (m *marks) bytes(b []byte) {
	mark := byte(m.next())
	b = b[:cap(b)]
	for i := range b {
		if m.seen && b[i] != mark {
			m.lost++
		}
		b[i] = mark
	}
}

// data marks the bytes of an array and all within it, and behind them the lists around them.
func (m *marks) data(d *api.Data) {
	for _, b := range d.Buffers {
		m.bytes(b)
	}
	mark := m.next()
	room := d.Buffers[len(d.Buffers):cap(d.Buffers)]
	for i, b := range room {
		if m.seen && cap(b) != mark {
			m.lost++
		}
		room[i] = make([]byte, 0, mark)
	}
	m.parts(d.Children)
	m.parts(d.Dict)
}

func (m *marks) parts(l []api.Data) {
	for k := range l {
		m.data(&l[k])
	}
	mark := m.next()
	room := l[:cap(l)]
	for i := range room {
		if m.seen && room[i].Nulls != mark {
			m.lost++
		}
		room[i].Nulls = mark
	}
}

// apart tells whether no two lists of arrays, and within them, share memory; they are spoilt then.
func apart(l ...[]api.Data) bool {
	first, second := &marks{}, &marks{seen: true}
	for _, m := range []*marks{first, second} {
		for _, d := range l {
			m.parts(d)
		}
	}
	return second.lost == 0
}

// P14.7: of arrays. Nothing that is handed in is changed, room behind it too, and answers share no memory with it, nor with each other.
func TestMemory(t *testing.T) {
	c := newChance(7)
	for range 800 {
		f := c.field()
		g, _ := kind.At(api.Schema{Fields: []api.Field{f}}, []int{0})
		d := c.array(f, 1+c.Intn(8))
		rows := make([]int, c.Intn(8))
		for i := range rows {
			rows[i] = c.Intn(d.Length)
		}
		args := []api.Data{roomy(d), roomy(c.index(rows)), roomy(c.array(maskField, d.Length))}
		was := wholeAll(args)

		taken, e := Take(f, args[0], args[1])
		left, err := Filter(f, args[0], args[2])
		cut, last := Cut(f, args[0], 0, d.Length)
		if e != api.OK || err != api.OK || last != api.OK {
			t.Fatalf("Take: %d, Filter: %d, Cut: %d", e, err, last)
		}
		again, _ := Take(f, args[0], args[1])
		if !sameAll(wholeAll(args), was) || !kind.AlikeFields(f, g) {
			t.Fatal("what was handed in is changed")
		}
		if !apart([]api.Data{taken}, []api.Data{left}, []api.Data{cut}, []api.Data{again}) {
			t.Fatal("two lists of answers share memory")
		}
		if !sameAll(wholeAll(args), was) {
			t.Fatal("an answer shares memory with what was handed in")
		}
	}
}

// P14.7: of batches.
func TestMemoryOfBatches(t *testing.T) {
	c := newChance(8)
	for range 400 {
		s := c.schema(4)
		rows := 1 + c.Intn(6)
		b := api.Batch{Rows: rows, Columns: roomyAll(c.batch(s, rows).Columns)}
		numbers := make([]int, 3, 9)
		for i := range numbers[:9] {
			numbers[:9][i] = c.Intn(rows)
		}
		kept := slices.Clone(numbers[:9])
		mask := []api.Data{roomy(c.array(maskField, rows))}
		was, on := wholeAll(b.Columns), wholeAll(mask)

		taken, e := TakeRows(s, b, numbers)
		left, err := FilterRows(s, b, mask[0])
		if e != api.OK || err != api.OK {
			t.Fatalf("TakeRows: %d, FilterRows: %d", e, err)
		}
		if !apart(taken.Columns, left.Columns) {
			t.Fatal("two lists of answers share memory")
		}
		if !sameAll(wholeAll(b.Columns), was) || !sameAll(wholeAll(mask), on) || !slices.Equal(numbers[:9], kept) {
			t.Fatal("what was handed in is changed, or an answer shares memory with it")
		}
	}
}

// P14.7: what an answer is stays, whatever is written into what was handed in.
func TestKeepsNothing(t *testing.T) {
	c := newChance(9)
	for range 300 {
		s := c.schema(3)
		b := c.batch(s, 1+c.Intn(6))
		numbers := []int{0, b.Rows - 1, 0}
		mask := c.array(maskField, b.Rows)
		taken, _ := TakeRows(s, b, numbers)
		left, _ := FilterRows(s, b, mask)
		was, on := wholeAll(taken.Columns), wholeAll(left.Columns)
		apart(b.Columns, []api.Data{mask})
		clear(numbers)
		if !sameAll(wholeAll(taken.Columns), was) || !sameAll(wholeAll(left.Columns), on) {
			t.Fatal("an answer shares memory with what was handed in")
		}
	}
}

// Arguments may be one and the same array.
func TestOneArrayTwice(t *testing.T) {
	d := data(t, indexField, "2", "0", "null", "1")
	got, e := Take(indexField, d, d)
	holds(t, "Take of itself", got, e, data(t, indexField, "null", "2", "null", "0"), api.OK)
	m := data(t, maskField, "true", "null", "false", "true")
	got, e = Filter(maskField, m, m)
	holds(t, "Filter by itself", got, e, data(t, maskField, "true", "true"), api.OK)
	s := api.Schema{Fields: []api.Field{maskField}}
	b, e := FilterRows(s, api.Batch{Rows: 4, Columns: []api.Data{m}}, m)
	holdsBatch(t, "FilterRows by a column", b, e, api.Batch{Rows: 2, Columns: []api.Data{data(t, maskField, "true", "true")}}, api.OK)
}

// Whatever is handed in, each call ends: arrays that stand in themselves, fields that do.
func TestEnds(t *testing.T) {
	rings := make([]api.Data, 1)
	rings[0] = api.Data{Length: 1, Buffers: [][]byte{nil, {0, 0, 0, 0, 1, 0, 0, 0}}, Children: rings}
	fields := make([]api.Field, 1)
	fields[0] = api.Field{Name: "f", Type: api.Type{Kind: api.List, Fields: fields}}
	by, mask := index(t, 0), data(t, maskField, "true")
	for _, f := range []api.Field{field(t, "list(i list(j list(k int8)))"), fields[0]} {
		s, b := api.Schema{Fields: []api.Field{f}}, api.Batch{Rows: 1, Columns: rings}
		_, e := Take(f, rings[0], by)
		_, e2 := Filter(f, rings[0], mask)
		_, e3 := Cut(f, rings[0], 0, 1)
		_, e4 := TakeRows(s, b, []int{0})
		_, e5 := FilterRows(s, b, mask)
		for _, e := range []api.Errno{e, e2, e3, e4, e5} {
			if e == api.OK {
				t.Error("an array that stands in itself is let by")
			}
		}
	}
	f := field(t, "int8")
	if _, e := Take(f, data(t, f, "1"), rings[0]); e == api.OK {
		t.Error("an index that stands in itself is let by")
	}
	if _, e := Filter(f, data(t, f, "1"), rings[0]); e == api.OK {
		t.Error("a mask that stands in itself is let by")
	}
}
