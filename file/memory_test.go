package file

import (
	"bytes"
	"slices"
	"testing"

	"colonnade/api"
)

// copiedData is the same array in memory of its own.
func copiedData(d api.Data) api.Data {
	x := api.Data{Length: d.Length, Offset: d.Offset, Nulls: d.Nulls}
	for _, b := range d.Buffers {
		x.Buffers = append(x.Buffers, slices.Clone(b))
	}
	for _, p := range d.Children {
		x.Children = append(x.Children, copiedData(p))
	}
	for _, p := range d.Dict {
		x.Dict = append(x.Dict, copiedData(p))
	}
	return x
}

func copiedBatch(b api.Batch) api.Batch {
	c := api.Batch{Rows: b.Rows}
	for _, d := range b.Columns {
		c.Columns = append(c.Columns, copiedData(d))
	}
	return c
}

// roomy is the same array, with room behind all its lists, which has a mark in it.
func roomy(d api.Data) api.Data {
	x := api.Data{Length: d.Length, Offset: d.Offset, Nulls: d.Nulls}
	x.Buffers, x.Children, x.Dict = make([][]byte, 0, len(d.Buffers)+2), make([]api.Data, 0, len(d.Children)+2), make([]api.Data, 0, len(d.Dict)+2)
	for _, b := range d.Buffers {
		room := bytes.Repeat([]byte{77}, len(b)+9)
		copy(room, b)
		x.Buffers = append(x.Buffers, room[:len(b)])
	}
	for _, p := range d.Children {
		x.Children = append(x.Children, roomy(p))
	}
	for _, p := range d.Dict {
		x.Dict = append(x.Dict, roomy(p))
	}
	return x
}

// marks writes into all lists of arrays, their spare room too, each its own mark; told again it looks whether all are there still.
type marks struct {
	n    int
	seen bool // it looks
	lost int
}

func (m *marks) next() int {
	m.n++
	return m.n
}

func (m *marks) bytes(b []byte) {
	mark := m.next()
	b = b[:cap(b)]
	for i := range b {
		if want := byte(mark + i>>4); m.seen && b[i] != want {
			m.lost++
		}
		b[i] = byte(mark + i>>4)
	}
}

func (m *marks) data(d *api.Data) {
	for _, b := range d.Buffers {
		m.bytes(b)
	}
	m.parts(d.Children)
	m.parts(d.Dict)
	mark := m.next()
	for i := range d.Buffers[:cap(d.Buffers)] {
		room := &d.Buffers[:cap(d.Buffers)][i]
		if i < len(d.Buffers) {
			continue // its bytes are marked, and looked for again
		}
		if m.seen && cap(*room) != mark {
			m.lost++
		}
		*room = make([]byte, 0, mark)
	}
}

// parts marks arrays, and the room behind them.
func (m *marks) parts(l []api.Data) {
	for k := range l {
		m.data(&l[k])
	}
	mark := m.next()
	room := l[:cap(l)]
	for i := range room {
		if m.seen && room[i].Length != mark {
			m.lost++
		}
		room[i].Length = mark
	}
}

// shared tells how many marks that were written into batches and bytes are lost: none, if no two lists share memory.
func shared(l []api.Batch, others ...[]byte) int {
	first, second := &marks{}, &marks{seen: true}
	for _, m := range []*marks{first, second} {
		for _, b := range l {
			m.parts(b.Columns)
		}
		for _, b := range others {
			m.bytes(b)
		}
	}
	return second.lost
}

// spoil writes into all lists of batches, their spare room too.
func spoil(l ...api.Batch) {
	for _, b := range l {
		(&marks{n: 50}).parts(b.Columns)
	}
}

// spoilBytes writes into bytes, their spare room too.
func spoilBytes(b []byte) {
	b = b[:cap(b)]
	for i := range b {
		b[i] = 99
	}
}

// spoilSchema writes into all lists of a schema, their spare room too.
func spoilSchema(s api.Schema) {
	spoilFields(s.Fields)
	for i := range s.Notes[:cap(s.Notes)] {
		s.Notes[:cap(s.Notes)][i] = api.Note{Key: "spoilt"}
	}
}

func spoilFields(l []api.Field) {
	l = l[:cap(l)]
	for i := range l {
		spoilFields(l[i].Type.Fields)
		l[i] = api.Field{Name: "spoilt"}
	}
}

// marked tells whether the room behind buffers of roomy arrays is as it was.
func marked(b api.Batch) bool {
	is := true
	for k := range b.Columns {
		each(&b.Columns[k], func(d *api.Data) {
			for _, b := range d.Buffers {
				room := b[len(b):cap(b)]
				is = is && bytes.Equal(room, bytes.Repeat([]byte{77}, len(room)))
			}
		})
	}
	return is
}

// R3, P13.6: Put neither changes nor keeps what it is handed, and what it tells is new memory.
func TestMemoryOfPut(t *testing.T) {
	c := newChance(21)
	for range 600 {
		table, o := c.table(3), c.option()
		text, extra := printed(table.Schema), append(make([]byte, 0, 20), c.noise(5)...)
		want := put(t, table, o, extra)
		var was []api.Batch
		for _, b := range table.Batches {
			for k := range b.Columns {
				b.Columns[k] = roomy(b.Columns[k])
			}
			was = append(was, copiedBatch(b))
		}
		wasExtra := slices.Clone(extra[:cap(extra)])
		got := put(t, table, o, extra)
		if !bytes.Equal(got, want) || printed(table.Schema) != text || !bytes.Equal(extra[:cap(extra)], wasExtra) {
			t.Fatalf("%s: other bytes, or another schema, or other extra bytes", text)
		}
		for i, b := range table.Batches {
			if !sameBatch(b, was[i]) || !marked(b) {
				t.Fatalf("%s: batch %d has changed", text, i)
			}
		}
		if n := shared(table.Batches, got, extra, want); n > 0 {
			t.Fatalf("%s: %d marks are lost", text, n)
		}
	}
}

// P13.6, R3: what a file tells is new memory, but for the buffers that lie in its bytes; none of its calls changes these.
func TestMemoryOfFile(t *testing.T) {
	c := newChance(22)
	for range 600 {
		table := c.table(3)
		o := api.Option{Press: 1 + c.Intn(2), Delta: c.Intn(2) == 0}
		b := put(t, table, o, []byte("more"))
		room := append(make([]byte, 0, len(b)+9), b...)
		whole := slices.Clone(room[:cap(room)])
		f := opened(t, room)
		text := printed(table.Schema)
		var all []api.Batch
		for i := range f.Len() {
			x, _ := f.Batch(i)
			y, _ := f.Some(i, []int{})
			all = append(all, x, y)
		}
		for i, x := range f.All() {
			if want, _ := f.Batch(i); !sameBatch(x, want) {
				t.Fatalf("%s: batch %d is another one", text, i)
			}
			all = append(all, x)
		}
		extra, again := f.Extra(), f.Extra()
		if n := shared(all, extra, again, slices.Clone(room)); n > 0 {
			t.Fatalf("%s: %d marks are lost", text, n)
		}
		spoilSchema(f.Schema())
		if printed(f.Schema()) != text || string(f.Extra()) != "more" {
			t.Fatalf("%s: what was told is told otherwise: %s, %q", text, printed(f.Schema()), f.Extra())
		}
		if !bytes.Equal(room[:cap(room)], whole) {
			t.Fatalf("%s: the bytes have changed", text)
		}
		for i, was := range table.Batches {
			if x, y := f.Batch(i); y.Err != api.OK || !sameForms(table.Schema, x, was) {
				t.Fatalf("%s: batch %d is another one: %+v", text, i, y)
			}
		}
	}
}

// inside tells whether a buffer lies in bytes: whoever writes into the one writes into the other.
func inside(b, in []byte) bool {
	if len(b) == 0 {
		return true
	}
	first := &b[0]
	for i := range in {
		if first == &in[i] {
			return true
		}
	}
	return false
}

// looks tells whether all buffers of columns, but for those of dictionaries, lie in bytes, without room behind them.
func looks(l []api.Data, in []byte) bool {
	for _, d := range l {
		for _, b := range d.Buffers {
			if !inside(b, in) || cap(b) != len(b) {
				return false
			}
		}
		if !looks(d.Children, in) {
			return false
		}
	}
	return true
}

// Some, of a file that is not packed: its buffers lie in the file's very bytes; lists around them and dictionaries are new memory.
func TestLooking(t *testing.T) {
	c := newChance(23)
	for range 500 {
		table := c.table(3)
		b := put(t, table, api.Option{Delta: c.Intn(2) == 0}, nil)
		f := opened(t, b)
		for i, got := range f.All() {
			again, _ := f.Some(i, f.columns())
			if !looks(got.Columns, b) || !looks(again.Columns, b) {
				t.Fatalf("%s: batch %d does not look", printed(table.Schema), i)
			}
			spoilAround(got.Columns)
			if other, x := f.Batch(i); x.Err != api.OK || !sameBatch(other, again) || !sameForms(table.Schema, other, table.Batches[i]) {
				t.Fatalf("%s: batch %d is another one: %+v", printed(table.Schema), i, x)
			}
		}
	}
}

// spoilAround writes into all lists of arrays, and into the bytes of dictionaries, but not into buffers that look.
func spoilAround(l []api.Data) {
	for k := range l {
		(&marks{n: 50}).parts(l[k].Dict)
		spoilAround(l[k].Children)
		clear(l[k].Buffers)
		l[k] = api.Data{Length: -1}
	}
}

// P13.1: who writes into a batch that looks writes into the file, and the file tells so.
func TestWritesThrough(t *testing.T) {
	b := put(t, small(t), api.Option{}, nil)
	f := opened(t, b)
	got, _ := f.Batch(0)
	was := slices.Clone(b)
	got.Columns[0].Buffers[1][0] = 7
	if bytes.Equal(b, was) {
		t.Fatal("the batch does not look")
	}
	if _, x := f.Batch(0); !isFault(x, api.ErrBlock, 1) {
		t.Errorf("behind a write: %+v", x)
	}
	tells(t, f, 1, "3")
	if l := texts(t, f, got); !slices.Equal(l, []string{"7", "2"}) {
		t.Errorf("what was told: %v", l)
	}
	got.Columns[0].Buffers[1][0] = 1
	tells(t, f, 0, "1", "2")
	// The marks, the foot and the tail, and the schema's message were looked at by Open, and are no more.
	foot := len(b) - 100
	for i := range b {
		if i < 48 || i >= foot-24 {
			b[i] = 99
		}
	}
	tells(t, f, 0, "1", "2")
	tells(t, f, 1, "3")
	if x := f.Check(); x.Err != api.OK || f.Rows(0) != 2 || printed(f.Schema()) != "a int8" {
		t.Errorf("Check: %+v", x)
	}
}

// Two files have nothing in common, and one file may be asked by several at the same time.
func TestTogether(t *testing.T) {
	c := newChance(24)
	for range 30 {
		table := c.table(3)
		b := put(t, table, c.option(), nil)
		f, g := opened(t, b), opened(t, slices.Clone(b))
		done := make(chan bool)
		for n := range 8 {
			go func() {
				fine := f.Check().Err == api.OK
				for i := range table.Batches {
					got, _ := []*File{f, g}[n%2].Batch(i)
					fine = fine && sameForms(table.Schema, got, table.Batches[i])
				}
				done <- fine
			}()
		}
		for range 8 {
			if !<-done {
				t.Errorf("%s: another batch", printed(table.Schema))
			}
		}
	}
}
