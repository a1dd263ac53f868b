package stream

import (
	"bytes"
	"slices"
	"strings"
	"testing"

	"colonnade/api"
	"colonnade/build"
	"colonnade/frame"
)

// copiedData is the same array in memory of its own.
func copiedData(d api.Data) api.Data {
	x := api.Data{Length: d.Length, Offset: d.Offset, Nulls: d.Nulls}
	for _, b := range d.Buffers {
		x.Buffers = append(x.Buffers, slices.Clone(b))
	}
	for _, p := range d.Children {
		x.Children = append(x.Children, copiedData(p))
	}
	for _, p := range d.Dict {
		x.Dict = append(x.Dict, copiedData(p))
	}
	return x
}

func copiedBatch(b api.Batch) api.Batch {
	c := api.Batch{Rows: b.Rows}
	for _, d := range b.Columns {
		c.Columns = append(c.Columns, copiedData(d))
	}
	return c
}

// roomy is the same array, with room behind all its lists, which has a mark in it.
func roomy(d api.Data) api.Data {
	x := api.Data{Length: d.Length, Offset: d.Offset, Nulls: d.Nulls}
	x.Buffers, x.Children, x.Dict = make([][]byte, 0, len(d.Buffers)+2), make([]api.Data, 0, len(d.Children)+2), make([]api.Data, 0, len(d.Dict)+2)
	for _, b := range d.Buffers {
		room := bytes.Repeat([]byte{77}, len(b)+9)
		copy(room, b)
		x.Buffers = append(x.Buffers, room[:len(b)])
	}
	for _, p := range d.Children {
		x.Children = append(x.Children, roomy(p))
	}
	for _, p := range d.Dict {
		x.Dict = append(x.Dict, roomy(p))
	}
	return x
}

// marks writes into all lists of arrays, their spare room too, each its own mark; told again it looks whether all are there still.
type marks struct {
	n    int
	seen bool // it looks
	lost int
}

func (m *marks) next() int {
	m.n++
	return m.n
}

func (m *marks) bytes(b []byte) {
	mark := m.next()
	b = b[:cap(b)]
	for i := range b {
		if want := byte(mark + i>>4); m.seen && b[i] != want {
			m.lost++
		}
		b[i] = byte(mark + i>>4)
	}
}

func (m *marks) data(d *api.Data) {
	for _, b := range d.Buffers {
		m.bytes(b)
	}
	m.parts(d.Children)
	m.parts(d.Dict)
	mark := m.next()
	for i := range d.Buffers[:cap(d.Buffers)] {
		room := &d.Buffers[:cap(d.Buffers)][i]
		if i < len(d.Buffers) {
			continue // its bytes are marked, and looked for again
		}
		if m.seen && cap(*room) != mark {
			m.lost++
		}
		*room = make([]byte, 0, mark)
	}
}

// parts marks arrays, and the room behind them.
func (m *marks) parts(l []api.Data) {
	for k := range l {
		m.data(&l[k])
	}
	mark := m.next()
	room := l[:cap(l)]
	for i := range room {
		if m.seen && room[i].Length != mark {
			m.lost++
		}
		room[i].Length = mark
	}
}

// shared tells how many marks that were written into batches and bytes are lost: none, if no two lists share memory.
func shared(l []api.Batch, others ...[]byte) int {
	first, second := &marks{}, &marks{seen: true}
	for _, m := range []*marks{first, second} {
		for _, b := range l {
			m.parts(b.Columns)
		}
		for _, b := range others {
			m.bytes(b)
		}
	}
	return second.lost
}

// spoil writes into all lists of batches, their spare room too.
func spoil(l ...api.Batch) {
	for _, b := range l {
		(&marks{n: 50}).parts(b.Columns)
	}
}

// spoilBytes writes into bytes, their spare room too.
func spoilBytes(b []byte) {
	b = b[:cap(b)]
	for i := range b {
		b[i] = 99
	}
}

// spoilSchema writes into all lists of a schema, their spare room too.
func spoilSchema(s api.Schema) {
	spoilFields(s.Fields)
	for i := range s.Notes[:cap(s.Notes)] {
		s.Notes[:cap(s.Notes)][i] = api.Note{Key: "spoilt"}
	}
}

func spoilFields(l []api.Field) {
	l = l[:cap(l)]
	for i := range l {
		spoilFields(l[i].Type.Fields)
		l[i] = api.Field{Name: "spoilt"}
	}
}

// P12.12: a writer neither changes nor keeps what it is handed, and the bytes that it tells are its own no longer.
func TestMemoryOfWriter(t *testing.T) {
	c := newChance(21)
	for range 800 {
		s, l, _ := c.stream(t, 3)
		o := c.option()
		want := wrote(t, s, o, l...)
		text := printed(s)
		w := newWriter(t, s, o)
		if printed(s) != text {
			t.Fatalf("%s: the schema has changed", text)
		}
		spoilSchema(s)
		var got []byte
		for _, b := range l {
			for k := range b.Columns {
				b.Columns[k] = roomy(b.Columns[k])
			}
			was := copiedBatch(b)
			if e := w.Write(b); e != nil {
				t.Fatalf("%s: Write: %v", text, e)
			}
			if !sameBatch(b, was) || !marked(b) {
				t.Fatalf("%s: the batch has changed", text)
			}
			spoil(b)
			if c.Intn(2) == 0 {
				x := w.Take()
				got = append(got, x...)
				spoilBytes(x)
			}
		}
		w.Close()
		if got = append(got, w.Take()...); !bytes.Equal(got, want) {
			t.Fatalf("%s: other bytes", text)
		}
	}
}

// marked tells whether the room behind buffers of roomy arrays is as it was.
func marked(b api.Batch) bool {
	is := true
	for k := range b.Columns {
		each(&b.Columns[k], func(d *api.Data) {
			for _, b := range d.Buffers {
				room := b[len(b):cap(b)]
				is = is && bytes.Equal(room, bytes.Repeat([]byte{77}, len(room)))
			}
		})
	}
	return is
}

// P12.12: a batch that is refused is neither changed nor kept, either.
func TestMemoryOfRefused(t *testing.T) {
	s := schema(t, "d dict(0, uint8, w text), c choice(l list(i int8))")
	b := wordsAndLists(t, s, 2)
	b.Columns[1] = choices(4000)
	for k := range b.Columns {
		b.Columns[k] = roomy(b.Columns[k])
	}
	was := copiedBatch(b)
	w := newWriter(t, s, api.Option{})
	if e := w.Write(b); !isWrong(e, 1, api.ErrRows) || !sameBatch(b, was) || !marked(b) {
		t.Errorf("a batch that is refused: %v", e)
	}
}

// P12.12: a reader neither changes nor keeps the pieces that it is fed; what it tells is new memory, dictionaries too.
func TestMemoryOfReader(t *testing.T) {
	c := newChance(22)
	for range 800 {
		s, _, b := c.stream(t, 3)
		want := rest(newReader(t, b))
		r := newReader(t)
		var all []api.Batch
		var pieces [][]byte
		for _, p := range c.pieces(b) {
			p = append(make([]byte, 0, len(p)+5), p...)
			was := slices.Clone(p[:cap(p)])
			r.Feed(p)
			if !bytes.Equal(was, p[:cap(p)]) {
				t.Fatalf("%s: a piece has changed", printed(s))
			}
			spoilBytes(p)
			pieces = append(pieces, p)
			for {
				x, e := r.Next()
				if e != nil {
					break
				}
				if !sameBatch(x, want.batches[len(all)]) {
					t.Fatalf("%s: batch %d is another one", printed(s), len(all))
				}
				all = append(all, x)
				spoil(all...)
			}
			if x, e := r.Schema(); e == nil {
				if printed(x) != want.schema {
					t.Fatalf("%s: the schema is another one: %s", want.schema, printed(x))
				}
				spoilSchema(x)
			}
		}
		if len(all) != len(want.batches) {
			t.Fatalf("%s: %d batches of %d", printed(s), len(all), len(want.batches))
		}
		if n := shared(all, pieces...); n > 0 {
			t.Fatalf("%s: %d marks are lost", printed(s), n)
		}
	}
}

// P12.12: two writers, two readers have nothing in common: what goes on between the calls of one changes nothing.
func TestTwo(t *testing.T) {
	c := newChance(23)
	for range 400 {
		s, l, b := c.stream(t, 3)
		other, more, d := c.stream(t, 3)
		o := c.option()
		want := wrote(t, s, o, l...)
		w, x := newWriter(t, s, o), newWriter(t, s, o)
		y := newWriter(t, other, o)
		for i, b := range l {
			w.Write(b)
			if i < len(more) {
				y.Write(more[i])
			}
			x.Write(c.batch(s, c.Intn(5)))
		}
		y.Close()
		x.Close()
		w.Close()
		if !bytes.Equal(w.Take(), want) {
			t.Fatalf("%s: other bytes", printed(s))
		}
		first, second := newReader(t), newReader(t)
		whole := rest(newReader(t, b))
		var batches []api.Batch
		for i := range b {
			first.Feed(b[i : i+1])
			if i < len(d) {
				second.Feed(d[i : i+1])
			}
			if got, e := first.Next(); e == nil {
				batches = append(batches, got)
			}
			second.Next()
		}
		if !slices.EqualFunc(batches, whole.batches, sameBatch) {
			t.Fatalf("%s: %d batches of %d", printed(s), len(batches), len(whole.batches))
		}
	}
}

// P12.12: the bytes of the end that a writer tells are new memory, too.
func TestMemoryOfEnd(t *testing.T) {
	s := schema(t, "a int8")
	for range 2 {
		w := newWriter(t, s, api.Option{})
		w.Take()
		w.Close()
		b := w.Take()
		if !bytes.Equal(b, frame.Close()) {
			t.Errorf("the end: % x", b)
		}
		spoilBytes(b)
	}
}

// Whatever is handed in, each call ends: schemas and arrays that stand in themselves.
func TestEnds(t *testing.T) {
	fields := make([]api.Field, 1)
	fields[0] = api.Field{Name: "a", Type: api.Type{Kind: api.Struct, Fields: fields}}
	if w, e := NewWriter(api.Schema{Fields: fields}, api.Option{}); w != nil || e != error(api.ErrType) {
		t.Errorf("a schema in itself: %v", e)
	}
	ring := make([]api.Data, 1)
	ring[0] = api.Data{Length: 1, Buffers: [][]byte{nil}, Children: ring, Dict: ring}
	for text, why := range map[string]api.Errno{
		"a struct(b struct(c int8))":     api.ErrShape,
		"d dict(0, int8, w text)":        api.ErrShape,
		"r runs(v runs(u runs(w bool)))": api.ErrShape,
		"":                               api.ErrColumns,
		"a int8, b int8":                 api.ErrColumns,
	} {
		w := newWriter(t, schema(t, text), api.Option{})
		if e := w.Write(api.Batch{Rows: 1, Columns: ring}); !isWrong(e, 1, why) {
			t.Errorf("%s: an array in itself: %v", text, e)
		}
	}
	for _, rows := range []int{-1, 4097, -1 << 63, 1<<63 - 1} {
		if e := newWriter(t, api.Schema{}, api.Option{}).Write(api.Batch{Rows: rows}); !isWrong(e, 1, api.ErrColumns) {
			t.Errorf("%d rows: %v", rows, e)
		}
	}
}

// A batch without columns has rows all the same; what is deep, wide and heavy is written and read.
func TestGreat(t *testing.T) {
	none := api.Schema{}
	b := wrote(t, none, api.Option{}, api.Batch{Rows: 4096}, api.Batch{})
	if o := rest(newReader(t, b)); len(o.batches) != 2 || o.batches[0].Rows != 4096 || o.batches[1].Rows != 0 || o.last != ErrEnd {
		t.Errorf("no columns: %+v", o)
	}
	text, v := "w text", api.Value{Text: "x"}
	for range 31 {
		text, v = "l list(s struct("+text+"))", api.Value{List: []api.Value{{List: []api.Value{v}}}}
	}
	deep := schema(t, "d dict(0, int8, "+text+")")
	d, e, _ := build.Batch(deep, [][]api.Value{{v}, {v}})
	if e != api.OK {
		t.Fatal(e)
	}
	if o := rest(newReader(t, wrote(t, deep, api.Option{Press: api.PressBack}, d, d))); len(o.batches) != 2 || !sameBatch(o.batches[1], d) {
		t.Errorf("deep: %d batches, %v", len(o.batches), o.last)
	}
	// 26 texts of 2,000 bytes that 2,000 rows name: 2,000 times 2,016 is within MaxWeight.
	heavy := schema(t, "d dict(0, uint8, w text)")
	values := make([]string, 2000)
	for i := range values {
		values[i] = `"` + strings.Repeat(string(rune('A'+i%26)), 2000) + `"`
	}
	x := column(t, heavy, values...)
	if o := rest(newReader(t, wrote(t, heavy, api.Option{Press: api.PressRuns, Delta: true}, x, x))); len(o.batches) != 2 || !sameBatch(o.batches[1], x) {
		t.Errorf("heavy: %d batches, %v", len(o.batches), o.last)
	}
}
