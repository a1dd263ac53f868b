package dict

import (
	"testing"

	"colonnade/api"
)

// copiedData is the same array in memory of its own.
func copiedData(d api.Data) api.Data {
	x := api.Data{Length: d.Length, Offset: d.Offset, Nulls: d.Nulls}
	for _, b := range d.Buffers {
		x.Buffers = append(x.Buffers, append([]byte(nil), b...))
	}
	for _, p := range d.Children {
		x.Children = append(x.Children, copiedData(p))
	}
	for _, p := range d.Dict {
		x.Dict = append(x.Dict, copiedData(p))
	}
	return x
}

// copiedFields is the same fields in memory of their own.
func copiedFields(l []api.Field) []api.Field {
	x := append([]api.Field(nil), l...)
	for k := range x {
		x[k].Type.Fields = copiedFields(x[k].Type.Fields)
	}
	return x
}

// spoilFields writes into all lists of fields, their spare room too.
func spoilFields(l []api.Field) {
	l = l[:cap(l)]
	for k := range l {
		spoilFields(l[k].Type.Fields)
		l[k] = api.Field{Name: "spoilt", Type: api.Type{Kind: 99, ID: 99}}
	}
}

// spoilValues writes into all lists of values, their spare room too.
func spoilValues(l []api.Value) {
	l = l[:cap(l)]
	for i := range l {
		spoilValues(l[i].List)
		l[i] = api.Value{Num: 12345, Text: "spoilt"}
	}
}

// spoilInts writes into a list of numbers, its spare room too.
func spoilInts(l []int) {
	l = l[:cap(l)]
	for i := range l {
		l[i] = 12345
	}
}

// marks writes into all lists of arrays, their spare room too, each its own mark; told again it looks whether all are there still.
type marks struct {
	n    int
	seen bool // it looks
	lost int
}

func (m *marks) next() int {
	m.n++
	return m.n
}

func (m *marks) bytes(b []byte) {
	mark := byte(m.next())
	b = b[:cap(b)]
	for i := range b {
		if m.seen && b[i] != mark {
			m.lost++
		}
		b[i] = mark
	}
}

func (m *marks) data(d *api.Data) {
	for _, b := range d.Buffers {
		m.bytes(b)
	}
	mark := m.next()
	for i, b := range d.Buffers[len(d.Buffers):cap(d.Buffers)] {
		if m.seen && cap(b) != mark {
			m.lost++
		}
		d.Buffers[len(d.Buffers):cap(d.Buffers)][i] = make([]byte, 0, mark)
	}
	m.parts(d.Children)
	m.parts(d.Dict)
}

// parts marks arrays, and the room behind them.
func (m *marks) parts(l []api.Data) {
	for k := range l {
		m.data(&l[k])
	}
	mark := m.next()
	for i, d := range l[len(l):cap(l)] {
		if m.seen && d.Length != mark {
			m.lost++
		}
		l[len(l):cap(l)][i].Length = mark
	}
}

// spoiled marks arrays twice: whether two lists of them share memory.
func spoiled(l ...*api.Data) bool {
	first, second := &marks{}, &marks{seen: true}
	for _, m := range []*marks{first, second} {
		for _, d := range l {
			m.data(d)
		}
	}
	return second.lost > 0
}

// P10.4: neither the schema nor an array nor a value is kept or changed, and whatever is written into an answer, the book knows what it knew.
func TestMemory(t *testing.T) {
	c := newChance(3)
	for range 150 {
		s := c.schema()
		m := newModel(api.Schema{Fields: copiedFields(s.Fields)})
		b, _ := Open(s)
		spoilFields(s.Fields)
		m.hold(t, b)
		ids := m.ids()
		for range 12 {
			if len(ids) == 0 {
				break
			}
			id := ids[c.Intn(min(len(ids), 2))]
			f := m.fields[id].Type.Fields[0]
			l := c.values(f, 9, 4)
			was := copyOf(l)
			if c.Intn(3) == 0 {
				arrays(t, c, b, m, id, l)
			} else {
				d, _, places, e := b.Tell(id, l, c.Intn(2) == 0)
				m.tell(id, was, true)
				if !sameValues(l, was) {
					t.Fatal("Tell changes what it is handed")
				}
				if e == api.OK && spoiled(&d) {
					t.Fatal("two lists of what Tell tells share memory")
				}
				spoilInts(places)
			}
			spoilValues(l)
			m.hold(t, b)
			answers(t, b, m, id)
		}
	}
}

// arrays makes values known by an array, into which is written then.
func arrays(t *testing.T, c *chance, b *Book, m *model, id int, l []api.Value) {
	t.Helper()
	d, ok := c.lying(m.fields[id].Type.Fields[0], l)
	if !ok {
		return
	}
	was := copiedData(d)
	if c.Intn(2) == 0 {
		b.Replace(id, d)
		m.put(id, was, false)
	} else {
		b.Grow(id, d)
		m.put(id, was, true)
	}
	if !sameData(d, was) {
		t.Fatal("an array was changed")
	}
	spoiled(&d)
}

// answers writes into all that a book tells without being changed.
func answers(t *testing.T, b *Book, m *model, id int) {
	t.Helper()
	c := b.Copy()
	spoilInts(b.IDs())
	f, _ := b.Field(id)
	g, _ := b.Field(id)
	spoilFields(f.Type.Fields)
	if len(g.Type.Fields) > 0 && g.Type.Fields[0].Name == "spoilt" {
		t.Fatal("two fields share memory")
	}
	x, _ := b.Get(id)
	y, _ := b.Get(id)
	z, _ := c.Get(id)
	all := []*api.Data{&x, &y, &z}
	one, two := b.Told(), c.Told()
	for _, l := range [][]api.Told{one, two} {
		for i := range l {
			all = append(all, &l[i].Values)
		}
	}
	if spoiled(all...) {
		t.Fatal("two lists of answers share memory")
	}
	m.hold(t, b)
	m.hold(t, c)
}

// Room that is handed in behind a list is neither read nor written, nor is the list kept.
func TestSpareRoom(t *testing.T) {
	b := opened(t, "d dict(0, int8, v list(i int8))")
	room := []api.Value{num(1), num(2), num(99)}
	l := []api.Value{{List: room[:2]}, {List: room[:1]}, num(99)}
	if _, how, p, e := b.Tell(0, l[:2], true); how != Anew || e != api.OK || !sameInts(p, []int{0, 1}) {
		t.Errorf("Tell: %d, %v, %d", how, p, e)
	}
	if room[2].Num != 99 || l[2].Num != 99 {
		t.Error("the room was written into")
	}
	room[0].Num = 5
	if _, how, p, e := b.Tell(0, []api.Value{list(num(1)), list(num(1), num(2))}, true); how != Nothing || e != api.OK || !sameInts(p, []int{1, 0}) {
		t.Errorf("Tell: %d, %v, %d", how, p, e)
	}
}

// Nor are values kept that take the place of all that were known.
func TestKeepsNothing(t *testing.T) {
	b := opened(t, "d dict(0, int8, v list(i list(j int8)))")
	var l []api.Value
	for i := range 128 {
		l = append(l, list(list(num(int64(i)))))
	}
	b.Tell(0, l, true)
	more := []api.Value{list(list(num(1), num(2))), list(list(), list(num(3)))}
	was := copyOf(more)
	if _, how, _, e := b.Tell(0, more, true); how != Anew || e != api.OK || b.Len(0) != 2 {
		t.Fatalf("Tell: %d, %d, Len %d", how, e, b.Len(0))
	}
	spoilValues(more)
	if _, how, p, e := b.Tell(0, was, true); how != Nothing || e != api.OK || !sameInts(p, []int{0, 1}) {
		t.Errorf("Tell: %d, %v, %d", how, p, e)
	}
	if d, _ := b.Get(0); !sameData(d, formed(t, fieldOf(t, b, 0), was)) {
		t.Errorf("Get: %v", d)
	}
}

// P10.4: however arrays lie, the book is the same.
func TestLying(t *testing.T) {
	s := schema(t, "d dict(0, int8, v struct(a text?, b list(i int8?)?))")
	f := s.Fields[0].Type.Fields[0]
	null := api.Value{Null: true}
	l := []api.Value{list(texts("x")[0], null), list(null, list(num(1), null)), list(null, null)}
	form := formed(t, f, l)
	other := api.Data{Length: 3, Offset: 1, Buffers: [][]byte{{0xfe, 7}}, Children: []api.Data{
		{Length: 5, Offset: 2, Nulls: 3, Buffers: [][]byte{{0xca}, {9, 9, 9, 9, 9, 9, 9, 9, 0, 0, 0, 0, 1, 0, 0, 0, 2, 0, 0, 0, 3, 0, 0, 0, 4, 0, 0, 0, 4, 0, 0, 0}, []byte("zxy\xffw")}},
		{Length: 4, Nulls: 3, Buffers: [][]byte{{0xf4}, {0, 0, 0, 0, 1, 0, 0, 0, 2, 0, 0, 0, 4, 0, 0, 0, 4, 0, 0, 0}}, Children: []api.Data{
			{Length: 4, Offset: 1, Nulls: 1, Buffers: [][]byte{{0x0f}, {7, 7, 7, 1, 8}}},
		}},
	}}
	for _, first := range []api.Data{form, other} {
		for _, second := range []api.Data{form, other} {
			b, _ := Open(s)
			m := newModel(s)
			if e, want := b.Replace(0, first), m.put(0, form, false); e != want || e != api.OK {
				t.Fatalf("Replace: %d, not %d", e, want)
			}
			m.hold(t, b)
			if e, want := b.Grow(0, second), m.put(0, form, true); e != want || e != api.OK {
				t.Fatalf("Grow: %d, not %d", e, want)
			}
			m.hold(t, b)
			m.asks(t, b, 0, append(l, list(null, list())), true)
			m.hold(t, b)
		}
	}
}

// Copies of copies, each of which goes its own way.
func TestCopies(t *testing.T) {
	s := schema(t, example)
	c := newChance(4)
	first, _ := Open(s)
	books, models := []*Book{first}, []*model{newModel(s)}
	for range 600 {
		k := c.Intn(len(books))
		b, m := books[k], models[k]
		switch c.Intn(6) {
		case 0:
			if len(books) < 8 {
				books, models = append(books, b.Copy()), append(models, m.copy())
			} else {
				j := c.Intn(8)
				books[j], models[j] = b.Copy(), m.copy()
			}
		case 1:
			d := formed(t, fieldOf(t, b, 1), from(c.Intn(9), c.Intn(20)))
			if e, want := b.Replace(1, d), m.put(1, d, false); e != want {
				t.Fatalf("Replace: %d, not %d", e, want)
			}
		case 2:
			d := formed(t, fieldOf(t, b, 1), from(c.Intn(9), c.Intn(20)))
			if e, want := b.Grow(1, d), m.put(1, d, true); e != want {
				t.Fatalf("Grow: %d, not %d", e, want)
			}
		case 3:
			m.asks(t, b, 1, from(c.Intn(200), c.Intn(300)), c.Intn(2) == 0)
		default:
			m.asks(t, b, 3, texts(numbered(c.Intn(200), c.Intn(60))...), c.Intn(2) == 0)
		}
		for i := range books {
			models[i].hold(t, books[i])
		}
	}
}

// Whatever is handed in, each call ends: lists that stand in themselves, values that name one list again and again.
func TestEnds(t *testing.T) {
	ring := []api.Value{{}}
	ring[0].List = ring
	bomb := []api.Value{num(1)}
	for range 12 {
		var l []api.Value
		for range 64 {
			l = append(l, list(bomb...))
		}
		bomb = l
	}
	rings := make([]api.Data, 1)
	rings[0] = api.Data{Length: 1, Buffers: [][]byte{nil, {0, 0, 0, 0, 1, 0, 0, 0}}, Children: rings}
	deep := "int8"
	for range 12 {
		deep = "list(i " + deep + ")"
	}
	for _, text := range []string{"list(i list(j int8))", "span(1, i int8)", "struct(a struct(b int8))", "choice(a choice(b int8))", deep} {
		b := opened(t, "d dict(0, int8, v "+text+")")
		for range 2 {
			for _, v := range []api.Value{{List: ring}, {List: bomb}} {
				if _, _, _, e := b.Tell(0, []api.Value{v}, true); e != api.ErrValue {
					t.Errorf("%s: Tell: %d", text, e)
				}
			}
			if e := b.Replace(0, rings[0]); e == api.OK {
				t.Errorf("%s: Replace of an array that stands in itself", text)
			}
			if e := b.Grow(0, rings[0]); e == api.OK {
				t.Errorf("%s: Grow by an array that stands in itself", text)
			}
			b.Tell(0, nil, true)
		}
	}
}

// Values that are heavy together, as they name one list again and again, are not laid out ahead of being refused.
func TestHeavy(t *testing.T) {
	b := opened(t, "d dict(0, int16, v struct(n int8, l list(i list(j int8))))")
	inner := list(make([]api.Value, 4095)...)
	var heavy api.Value
	for range 63 {
		heavy.List = append(heavy.List, inner)
	}
	var l []api.Value
	for i := range 60 {
		l = append(l, list(num(int64(i)), heavy))
	}
	for range 2 {
		if _, _, _, e := b.Tell(0, l, true); e != api.ErrIndices {
			t.Errorf("Tell: %d", e)
		}
		if _, _, _, e := b.Tell(0, []api.Value{list(num(1), list(inner))}, true); e != api.OK || b.Len(0) != 1 {
			t.Errorf("Tell of one: %d", e)
		}
	}
}
