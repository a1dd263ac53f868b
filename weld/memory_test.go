package weld

import (
	"bytes"
	"slices"
	"testing"

	"colonnade/api"
	"colonnade/kind"
)

// roomy is the same array, with room behind all its lists that is not empty.
func roomy(d api.Data) api.Data {
	x := api.Data{Length: d.Length, Offset: d.Offset, Nulls: d.Nulls}
	for _, b := range d.Buffers {
		b = append(slices.Clone(b), "room behind bytes"...)
		x.Buffers = append(x.Buffers, b[:len(b)-17])
	}
	x.Buffers = append(x.Buffers, []byte("room"))[:len(d.Buffers)]
	x.Children, x.Dict = roomyAll(d.Children), roomyAll(d.Dict)
	return x
}

func roomyAll(l []api.Data) []api.Data {
	var x []api.Data
	for _, d := range l {
		x = append(x, roomy(d))
	}
	return append(x, api.Data{Length: 77})[:len(l)]
}

func roomyBatches(l []api.Batch) []api.Batch {
	var x []api.Batch
	for _, b := range l {
		x = append(x, api.Batch{Rows: b.Rows, Columns: roomyAll(b.Columns)})
	}
	return append(x, api.Batch{Rows: 77})[:len(l)]
}

// whole is an array with the room behind its lists as if it were theirs, in memory of its own.
func whole(d api.Data) api.Data {
	x := api.Data{Length: d.Length, Offset: d.Offset, Nulls: d.Nulls}
	for _, b := range d.Buffers[:cap(d.Buffers)] {
		x.Buffers = append(x.Buffers, bytes.Clone(b[:cap(b)]))
	}
	x.Children, x.Dict = wholeAll(d.Children), wholeAll(d.Dict)
	return x
}

func wholeAll(l []api.Data) []api.Data {
	var x []api.Data
	for _, d := range l[:cap(l)] {
		x = append(x, whole(d))
	}
	return x
}

func wholeBatches(l []api.Batch) []api.Batch {
	var x []api.Batch
	for _, b := range l[:cap(l)] {
		x = append(x, api.Batch{Rows: b.Rows, Columns: wholeAll(b.Columns)})
	}
	return x
}

// marks writes into all lists of arrays, their spare room too, each its own mark; told again it looks whether all are there still.
type marks struct {
	n    int
	seen bool // it looks
	lost int
}

func (m *marks) next() int {
	m.n++
	return m.n
}

func (m *marks) bytes(b []byte) {
	mark := byte(m.next())
	b = b[:cap(b)]
	for i := range b {
		if m.seen && b[i] != mark {
			m.lost++
		}
		b[i] = mark
	}
}

// data marks the bytes of an array and all within it, and behind them the lists around them.
func (m *marks) data(d *api.Data) {
	for _, b := range d.Buffers {
		m.bytes(b)
	}
	mark := m.next()
	room := d.Buffers[len(d.Buffers):cap(d.Buffers)]
	for i, b := range room {
		if m.seen && cap(b) != mark {
			m.lost++
		}
		room[i] = make([]byte, 0, mark)
	}
	m.parts(d.Children)
	m.parts(d.Dict)
}

func (m *marks) parts(l []api.Data) {
	for k := range l {
		m.data(&l[k])
	}
	mark := m.next()
	room := l[:cap(l)]
	for i := range room {
		if m.seen && room[i].Nulls != mark {
			m.lost++
		}
		room[i].Nulls = mark
	}
}

func (m *marks) batches(l []api.Batch) {
	for i := range l {
		m.parts(l[i].Columns)
	}
	mark := m.next()
	room := l[:cap(l)]
	for i := range room {
		if m.seen && room[i].Rows != mark {
			m.lost++
		}
		room[i].Rows = mark
	}
}

func (m *marks) fields(l []api.Field) {
	for k := range l {
		m.fields(l[k].Type.Fields)
	}
	mark := m.next()
	room := l[:cap(l)]
	for i := range room {
		if m.seen && room[i].Type.Width != mark {
			m.lost++
		}
		room[i].Type.Width = mark
	}
}

func (m *marks) schema(s api.Schema) {
	m.fields(s.Fields)
	mark := string(rune(m.next()))
	room := s.Notes[:cap(s.Notes)]
	for i := range room {
		if m.seen && room[i].Key != mark {
			m.lost++
		}
		room[i].Key = mark
	}
}

// apart tells whether no two lists of all that do marks share memory; they are spoilt then.
func apart(do func(*marks)) bool {
	first, second := &marks{}, &marks{seen: true}
	do(first)
	do(second)
	return second.lost == 0
}

// noted is a schema with notes, and with room behind its lists.
func noted(s api.Schema) api.Schema {
	s.Notes = append([]api.Note{{Key: "k", Text: "x"}, {Key: "l"}}, api.Note{Key: "room"})[:2]
	s.Fields = append(slices.Clone(s.Fields), api.Field{Name: "room"})[:len(s.Fields)]
	return s
}

// wholeSchema is a schema that may be, in memory of its own.
func wholeSchema(t *testing.T, s api.Schema) api.Schema {
	t.Helper()
	text, e := kind.Print(s)
	if e != api.OK {
		t.Fatalf("Print: %d", e)
	}
	return schema(t, text)
}

// P15.7: of arrays. Nothing that is handed in is changed, room behind it too, and answers share no memory with it, nor with each other.
func TestMemoryOfArrays(t *testing.T) {
	c := newChance(20)
	for range 800 {
		f := c.field()
		g, _ := kind.At(api.Schema{Fields: []api.Field{f}}, []int{0})
		args := roomyAll(append(c.arrays(f), c.array(f, 3)))
		was := wholeAll(args)
		d, e := Arrays(f, args)
		again, err := Arrays(f, args)
		if e != api.OK || err != api.OK {
			t.Fatalf("Arrays: %d, %d", e, err)
		}
		answers := []api.Data{d, again}
		if !apart(func(m *marks) { m.parts(answers) }) {
			t.Fatal("two lists of answers share memory")
		}
		if !sameAll(wholeAll(args), was) || !kind.AlikeFields(f, g) {
			t.Fatal("what was handed in is changed, or an answer shares memory with it")
		}
	}
}

// P15.7: of batches and schemas.
func TestMemoryOfBatches(t *testing.T) {
	c := newChance(21)
	for range 500 {
		s := noted(c.schema(3))
		u := noted(c.schemaFrom('w', 3))
		l := roomyBatches(append(c.batches(s), c.batch(s, 5)))
		x := roomyBatches([]api.Batch{c.batch(u, 5)})
		was, two := wholeBatches(l), wholeBatches(x)
		s1, s2 := wholeSchema(t, s), wholeSchema(t, u)
		last := l[len(l)-1]

		welded, e := Batches(s, l)
		both, beside, e2 := Beside(s, last, u, x[0])
		cut, e3 := Cut(s, last, 2)
		even, e4 := Even(api.Table{Schema: s, Batches: l}, 3)
		if e != api.OK || e2 != api.OK || e3 != api.OK || e4 != api.OK {
			t.Fatalf("Batches: %d, Beside: %d, Cut: %d, Even: %d", e, e2, e3, e4)
		}
		all := func(m *marks) {
			m.parts(welded.Columns)
			m.parts(beside.Columns)
			m.batches(cut)
			m.batches(even.Batches)
			m.schema(both)
			m.schema(even.Schema)
		}
		if !apart(all) {
			t.Fatal("two lists of answers share memory")
		}
		if !sameBatches(wholeBatches(l), was) || !sameBatches(wholeBatches(x), two) || !sameSchema(s, s1) || !sameSchema(u, s2) {
			t.Fatal("what was handed in is changed, or an answer shares memory with it")
		}
		for _, s := range []api.Schema{s, u} {
			if n := s.Fields[:len(s.Fields)+1]; n[len(s.Fields)].Name != "room" || n[len(s.Fields)].Type.Width != 0 || s.Notes[:3][2].Key != "room" {
				t.Fatal("the room behind a schema's lists is changed")
			}
		}
	}
}

// P15.7: what an answer is stays, whatever is written into what was handed in.
func TestKeepsNothing(t *testing.T) {
	c := newChance(22)
	for range 500 {
		s := noted(c.schema(3))
		u := noted(c.schemaFrom('w', 3))
		l := append(c.batches(s), c.batch(s, 5))
		x := []api.Batch{c.batch(u, 5)}
		last := l[len(l)-1]
		welded, _ := Batches(s, l)
		both, beside, _ := Beside(s, last, u, x[0])
		cut, _ := Cut(s, last, 2)
		even, _ := Even(api.Table{Schema: s, Batches: l}, 3)
		answers := []api.Batch{welded, beside}
		was, pieces, table := wholeBatches(answers), wholeBatches(cut), wholeBatches(even.Batches)
		s1, s2 := wholeSchema(t, both), wholeSchema(t, even.Schema)

		spoil := &marks{}
		spoil.batches(l)
		spoil.batches(x)
		spoil.schema(s)
		spoil.schema(u)
		if !sameBatches(wholeBatches(answers), was) || !sameBatches(wholeBatches(cut), pieces) || !sameBatches(wholeBatches(even.Batches), table) {
			t.Fatal("an answer shares memory with what was handed in")
		}
		if !sameSchema(both, s1) || !sameSchema(even.Schema, s2) {
			t.Fatal("a schema that is answered shares memory with what was handed in")
		}
	}
}

// Arguments may be one and the same batch.
func TestOneTwice(t *testing.T) {
	s := schema(t, "a int8")
	b := ints(1, 2)
	got, e := Batches(s, []api.Batch{b, b, b})
	holdsBatch(t, "Batches", got, e, ints(1, 2, 1, 2, 1, 2), api.OK)
	_, got, e = Beside(s, b, schema(t, "b int8"), b)
	holdsBatch(t, "Beside", got, e, batchOf(b.Columns[0], b.Columns[0]), api.OK)
	if !apart(func(m *marks) { m.parts(got.Columns) }) {
		t.Error("two columns share memory")
	}
}

// Whatever is handed in, each call ends: arrays that stand in themselves, fields that do.
func TestEnds(t *testing.T) {
	rings := make([]api.Data, 1)
	rings[0] = api.Data{Length: 1, Buffers: [][]byte{nil, {0, 0, 0, 0, 1, 0, 0, 0}}, Children: rings}
	fields := make([]api.Field, 1)
	fields[0] = api.Field{Name: "f", Type: api.Type{Kind: api.List, Fields: fields}}
	for _, f := range []api.Field{field(t, "list(i list(j list(k int8)))"), fields[0]} {
		s, b := api.Schema{Fields: []api.Field{f}}, api.Batch{Rows: 1, Columns: rings}
		_, e := Arrays(f, rings)
		_, e2 := Batches(s, []api.Batch{b})
		_, _, e3 := Beside(api.Schema{}, api.Batch{Rows: 1}, s, b)
		_, e4 := Cut(s, b, 1)
		_, e5 := Even(api.Table{Schema: s, Batches: []api.Batch{b}}, 1)
		for _, e := range []api.Errno{e, e2, e3, e4, e5} {
			if e == api.OK {
				t.Error("an array that stands in itself is let by")
			}
		}
	}
}
