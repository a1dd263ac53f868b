package build

import (
	"testing"

	"colonnade/api"
	"colonnade/kind"
)

// copiedField is the same field in memory of its own.
func copiedField(f api.Field) api.Field {
	f.Type.Fields = append([]api.Field(nil), f.Type.Fields...)
	for k, c := range f.Type.Fields {
		f.Type.Fields[k] = copiedField(c)
	}
	return f
}

// spoilField writes into all lists of a field.
func spoilField(f *api.Field) {
	for k := range f.Type.Fields {
		spoilField(&f.Type.Fields[k])
		f.Type.Fields[k] = api.Field{Name: "spoilt", Type: api.Type{Kind: 99}}
	}
}

// spoilValues writes into all lists of values, their spare room too.
func spoilValues(l []api.Value) {
	for i := range l {
		spoilValues(l[i].List)
	}
	l = l[:cap(l)]
	for i := range l {
		l[i] = api.Value{Num: 12345, Text: "spoilt"}
	}
}

// marks writes into all lists of an array, their spare room too, each its own mark; told again it looks whether all are there still.
type marks struct {
	n    int
	seen bool // it looks
	lost int
}

func (m *marks) next() int {
	m.n++
	return m.n
}

func (m *marks) bytes(b []byte) {
	mark := byte(m.next())
	b = b[:cap(b)]
	for i := range b {
		if m.seen && b[i] != mark {
			m.lost++
		}
		b[i] = mark
	}
}

func (m *marks) data(d *api.Data) {
	for _, b := range d.Buffers {
		m.bytes(b)
	}
	for k := range d.Children {
		m.data(&d.Children[k])
	}
	for k := range d.Dict {
		m.data(&d.Dict[k])
	}
	m.buffers(d.Buffers)
	m.parts(d.Children)
	m.parts(d.Dict)
}

// buffers and parts mark the room behind a list.
func (m *marks) buffers(l [][]byte) {
	mark := m.next()
	for i, b := range l[len(l):cap(l)] {
		if m.seen && cap(b) != mark {
			m.lost++
		}
		l[len(l):cap(l)][i] = make([]byte, 0, mark)
	}
}

func (m *marks) parts(l []api.Data) {
	mark := m.next()
	for i, d := range l[len(l):cap(l)] {
		if m.seen && d.Length != mark {
			m.lost++
		}
		l[len(l):cap(l)][i].Length = mark
	}
}

func (m *marks) values(l []api.Value) {
	for _, v := range l {
		m.values(v.List)
	}
	mark := int64(m.next())
	l = l[:cap(l)]
	for i := range l {
		if m.seen && l[i].Num != mark {
			m.lost++
		}
		l[i].Num = mark
	}
}

// twice marks, and looks whether all marks are there still.
func twice(do func(m *marks)) int {
	do(&marks{})
	m := &marks{seen: true}
	do(m)
	return m.lost
}

// P9.9: arrays are new memory, all their lists apart from each other and from what was handed in, which is not changed.
func TestMemoryOfArrays(t *testing.T) {
	c := newChance(31)
	for range 800 {
		f := c.field()
		g := copiedField(f)
		l := c.values(f, c.Intn(10), 4)
		kept := copied(list(l...)).List
		form, _ := modelForm(f, l)
		lying := c.array(f, c.Intn(6))
		was := copiedData(lying)

		of, _, _ := Of(f, l)
		empty, _ := Empty(f)
		again, _ := Form(f, form)
		other, _ := Form(f, lying)
		IsForm(f, lying)
		b, _ := New(f)
		for _, v := range l {
			b.Add(v)
		}
		done, _ := b.Done()
		answers := []*api.Data{&of, &empty, &again, &other, &done}
		if n := twice(func(m *marks) {
			for _, d := range answers {
				m.data(d)
			}
		}); n > 0 {
			t.Fatalf("%v: %d marks are lost", f, n)
		}
		want, _ := modelForm(f, kept)
		if !sameValues(l, kept) || !modelSame(form, want) || !modelSame(lying, was) || !kind.AlikeFields(f, g) {
			t.Fatalf("%v: an answer shares memory with what was handed in", f)
		}
	}
}

// P9.9: so are batches and rows.
func TestMemoryOfBatches(t *testing.T) {
	c := newChance(32)
	for range 500 {
		s := c.schema(4)
		var rows, kept [][]api.Value
		for range c.Intn(6) {
			row := c.row(s, 4)
			rows, kept = append(rows, row), append(kept, copied(list(row...)).List)
		}
		b, _, _ := Batch(s, rows)
		x := copiedBatch(b)
		back, _ := Rows(s, b)
		if n := twice(func(m *marks) {
			for _, row := range back {
				m.values(row)
			}
			for k := range b.Columns {
				m.data(&b.Columns[k])
			}
			m.parts(b.Columns)
		}); n > 0 {
			t.Fatalf("%v: %d marks are lost", s, n)
		}
		if !sameRows(rows, kept) {
			t.Fatalf("%v: an answer shares memory with the rows", s)
		}
		first, _ := Rows(s, x)
		second, _ := Rows(s, x)
		for _, row := range first {
			spoilValues(row)
		}
		if !sameRows(second, kept) {
			t.Fatalf("%v: two answers share memory", s)
		}
		again, _, _ := Batch(s, second)
		for k := range x.Columns {
			if !modelSame(x.Columns[k], again.Columns[k]) {
				t.Fatalf("%v: rows share memory with their batch", s)
			}
		}
	}
}

// Room that is handed in behind a list is neither read nor written.
func TestSpareRoom(t *testing.T) {
	f := field(t, "list(i int8)")
	room := []api.Value{num(1), num(2), num(99)}
	l := []api.Value{list(room[:2]...), list(room[:1]...), num(99)}
	l[0].List, l[1].List = room[:2], room[:1]
	d, e, _ := Of(f, l[:2])
	if e != api.OK || printed(d) != "2 / - ; 00 00 00 00 02 00 00 00 03 00 00 00 (3 / - ; 01 02 01)" {
		t.Errorf("Of: %s, %d", printed(d), e)
	}
	b, _ := New(f)
	b.Add(l[0])
	b.Add(l[1])
	b.Done()
	if room[2].Num != 99 || l[2].Num != 99 {
		t.Error("the room was written into")
	}
}

// Whatever is handed in, each call ends: lists that stand in themselves, values that name one list again and again.
func TestEnds(t *testing.T) {
	ring := []api.Value{{}}
	ring[0].List = ring
	bomb := []api.Value{num(1)}
	for range 12 {
		bomb = times(64, list(bomb...))
	}
	rings := make([]api.Data, 1)
	rings[0] = api.Data{Length: 1, Buffers: [][]byte{nil, modelInts(4, 0, 1)}, Children: rings}
	deep := "int8"
	for range 12 {
		deep = "list(i " + deep + ")"
	}
	for _, s := range []string{"list(i list(j int8))", "span(1, i int8)", "struct(a struct(b int8))", "choice(a choice(b int8))", deep, "runs(v " + deep + ")", "dict(0, int8, w " + deep + ")"} {
		f := field(t, s)
		for _, v := range []api.Value{{List: ring}, {List: bomb}} {
			if _, e, at := Of(f, []api.Value{v}); e != api.ErrValue || at != 0 {
				t.Errorf("%s: Of: %d, %d", s, e, at)
			}
			b, _ := New(f)
			if e := b.Add(v); e != api.ErrValue {
				t.Errorf("%s: Add: %d", s, e)
			}
		}
		Form(f, rings[0])
		IsForm(f, rings[0])
		Rows(api.Schema{Fields: []api.Field{f}}, api.Batch{Rows: 1, Columns: rings})
	}
	if _, e := Rows(schema(t, "a list(i list(j list(k int8)))"), api.Batch{Rows: 1, Columns: rings}); e == api.OK {
		t.Error("Rows of an array that stands in itself")
	}
}

// A value as heavy as may be goes through as many runs as a type has levels, in a time that can be borne.
func TestDeepAndHeavy(t *testing.T) {
	s := "span(63, x span(64, x int8))"
	for range 60 {
		s = "runs(v " + s + ")"
	}
	f := field(t, "struct(a "+s+")?")
	b, _ := New(f)
	for i := range 63 {
		if e := b.Add(null); e != api.OK {
			t.Fatalf("Add %d: %d", i, e)
		}
	}
	d, e := b.Done()
	if e != api.OK || d.Nulls != 63 {
		t.Errorf("Done: %d nulls, %d", d.Nulls, e)
	}
}
