package batch

import (
	"bytes"
	"slices"
	"testing"

	"colonnade/api"
	"colonnade/kind"
)

// copiedData is the same array in memory of its own.
func copiedData(d api.Data) api.Data {
	x := api.Data{Length: d.Length, Offset: d.Offset, Nulls: d.Nulls}
	for _, b := range d.Buffers {
		x.Buffers = append(x.Buffers, slices.Clone(b))
	}
	for _, p := range d.Children {
		x.Children = append(x.Children, copiedData(p))
	}
	for _, p := range d.Dict {
		x.Dict = append(x.Dict, copiedData(p))
	}
	return x
}

// roomy is the same array, with room behind all its lists, and lists where none need be.
func roomy(d api.Data) api.Data {
	x := api.Data{Length: d.Length, Offset: d.Offset, Nulls: d.Nulls}
	x.Buffers, x.Children, x.Dict = make([][]byte, 0, len(d.Buffers)+2), make([]api.Data, 0, len(d.Children)+2), make([]api.Data, 0, len(d.Dict)+2)
	for _, b := range d.Buffers {
		x.Buffers = append(x.Buffers, append(make([]byte, 0, len(b)+9), b...))
	}
	for _, p := range d.Children {
		x.Children = append(x.Children, roomy(p))
	}
	for _, p := range d.Dict {
		x.Dict = append(x.Dict, roomy(p))
	}
	return x
}

// marks writes into the lists around the buffers of arrays, their spare room too, each its own mark; told again it looks whether all are there still.
type marks struct {
	n    int
	seen bool // it looks
	lost int
}

func (m *marks) next() int {
	m.n++
	return m.n
}

func (m *marks) data(d *api.Data) {
	mark := m.next()
	room := d.Buffers[:cap(d.Buffers)]
	for i := range room {
		if m.seen && cap(room[i]) != mark {
			m.lost++
		}
		room[i] = make([]byte, 0, mark)
	}
	m.parts(d.Children)
	m.parts(d.Dict)
}

func (m *marks) buffer(b []byte) {
	mark := byte(m.next())
	b = b[:cap(b)]
	for i := range b {
		if m.seen && b[i] != mark {
			m.lost++
		}
		b[i] = mark
	}
}

// parts marks arrays, and the room behind them.
func (m *marks) parts(l []api.Data) {
	for k := range l {
		m.data(&l[k])
	}
	mark := m.next()
	room := l[:cap(l)]
	for i := range room {
		if m.seen && room[i].Length != mark {
			m.lost++
		}
		room[i].Length = mark
	}
}

// lists tells how many lists around buffers of batches, or arrays, share memory.
func lists(l ...[]api.Data) int {
	first, second := &marks{}, &marks{seen: true}
	for _, m := range []*marks{first, second} {
		for _, d := range l {
			m.parts(d)
		}
	}
	return second.lost
}

// inside tells whether bytes lie within others, at a place.
func inside(b, within []byte, at int) bool {
	return len(b) == 0 || at < len(within) && &b[0] == &within[at]
}

// buffersOf tells all buffers of an array, but a dictionary's, in the laying order.
func buffersOf(d api.Data) [][]byte {
	l := slices.Clone(d.Buffers)
	for _, p := range d.Children {
		l = append(l, buffersOf(p)...)
	}
	return l
}

// dictsOf tells all dictionaries' buffers of an array, in the laying order.
func dictsOf(d api.Data) [][]byte {
	var l [][]byte
	for _, p := range d.Dict {
		l = append(l, buffersOf(p)...)
	}
	for _, p := range d.Children {
		l = append(l, dictsOf(p)...)
	}
	return l
}

// P11.4: without a press the buffers are the very bytes of the body, without the room behind them; the dictionaries' are those that were handed in.
func TestLooking(t *testing.T) {
	c := newChance(31)
	for range 1500 {
		m := c.message(3)
		m.columns = upTo(len(m.s.Fields))
		for k := range m.dicts {
			m.dicts[k].Values = roomy(m.dicts[k].Values)
		}
		b, x := Join(m.s, m.h, m.body, m.dicts)
		if x.Err != api.OK {
			t.Fatalf("%s: %+v", printed(m.s), x)
		}
		slot := 0
		for _, d := range b.Columns {
			for _, b := range buffersOf(d) {
				if m.h.Press == api.PressNone && (!inside(b, m.body, m.h.Slots[slot].At) || cap(b) != len(b)) {
					t.Fatalf("%s: the buffer of slot %d does not lie in the body", printed(m.s), slot)
				}
				slot++
			}
		}
		for k, d := range b.Columns {
			l := dictsOf(d)
			for _, f := range modelDicts(m.s.Fields[k:k+1], b.Columns[k:k+1]) {
				i := slices.IndexFunc(m.dicts, func(x api.Told) bool { return x.ID == f.ID })
				for _, b := range buffersOf(m.dicts[i].Values) {
					if !inside(l[0], b, 0) || len(l[0]) != len(b) {
						t.Fatalf("%s: a dictionary's buffer is not the one that was handed in", printed(m.s))
					}
					l = l[1:]
				}
			}
		}
	}
}

// P11.4: whoever writes into the body writes into what was joined without a press, and no further.
func TestWrittenInto(t *testing.T) {
	m := twoColumns(t)
	b, _ := Join(m.s, m.h, m.body, nil)
	m.body[9] = 77
	if b.Columns[0].Buffers[1][1] != 77 {
		t.Error("the bytes were copied")
	}
	_ = append(b.Columns[0].Buffers[1], 1, 2, 3, 4, 5, 6)
	if m.body[11] != 0 || m.body[16] != 1 {
		t.Error("there is room behind a buffer")
	}
	f := field(t, "dict(0, int8, w text)")
	h, body, _ := SplitDict(f, values(t, f.Type.Fields[0], `"ab"`), false, api.PressNone)
	d, _ := JoinDict(f, h, body)
	body[h.Slots[2].At] = 'x'
	if string(d.Buffers[2]) != "xb" || cap(d.Buffers[2]) != 2 {
		t.Errorf("the bytes were copied: %s", d.Buffers[2])
	}
}

// P11.4: a column that is named twice is there twice: the same bytes, in lists of their own.
func TestNamedTwice(t *testing.T) {
	c := newChance(32)
	for range 1500 {
		m := c.message(2)
		if len(m.s.Fields) == 0 {
			continue
		}
		m.columns = []int{0, len(m.s.Fields) - 1, 0}
		b, x := Some(m.s, m.h, m.body, m.dicts, m.columns)
		if x.Err != api.OK || !sameData(b.Columns[0], b.Columns[2]) {
			t.Fatalf("%s: %+v", printed(m.s), x)
		}
		first, second := append(buffersOf(b.Columns[0]), dictsOf(b.Columns[0])...), append(buffersOf(b.Columns[2]), dictsOf(b.Columns[2])...)
		for k := range first {
			if !inside(first[k], second[k], 0) {
				t.Fatalf("%s: the buffer %d is there twice in other bytes", printed(m.s), k)
			}
		}
		if n := lists(b.Columns); n > 0 {
			t.Fatalf("%s: %d marks are lost", printed(m.s), n)
		}
	}
}

// P11.8: the lists around buffers are new memory, apart from those that were handed in, also where these have room; with a press the buffers are new memory, too.
func TestMemoryOfJoined(t *testing.T) {
	c := newChance(33)
	for range 1500 {
		m := c.message(3)
		m.columns = slices.Compact(slices.Sorted(slices.Values(m.columns)))
		var handed []api.Data
		for k := range m.dicts {
			m.dicts[k].Values = roomy(m.dicts[k].Values)
			handed = append(handed, m.dicts[k].Values)
		}
		m.body = append(make([]byte, 0, len(m.body)+16), m.body...)
		body := slices.Clone(m.body)
		nodes, numbers := slices.Clone(m.h.Nodes), slices.Clone(m.columns)
		b, x := Some(m.s, m.h, m.body, m.dicts, m.columns)
		if x.Err != api.OK {
			t.Fatalf("%s: %+v", printed(m.s), x)
		}
		if m.h.Press != api.PressNone {
			for k := range b.Columns {
				each(&b.Columns[k], func(d *api.Data) { d.Dict = nil })
			}
			if n := twice(b.Columns); n > 0 {
				t.Fatalf("%s: %d marks of buffers are lost", printed(m.s), n)
			}
			if !bytes.Equal(m.body, body) {
				t.Fatalf("%s: packed buffers lie in the body", printed(m.s))
			}
			b, _ = Some(m.s, m.h, m.body, m.dicts, m.columns)
		}
		if n := lists(b.Columns, handed); n > 0 {
			t.Fatalf("%s: %d marks are lost", printed(m.s), n)
		}
		if !bytes.Equal(m.body, body) || !slices.Equal(nodes, m.h.Nodes) || !slices.Equal(numbers, m.columns) {
			t.Fatalf("%s: what was handed in has changed", printed(m.s))
		}
	}
}

// twice marks the buffers of arrays, and looks whether all marks are there still.
func twice(l []api.Data) int {
	first, second := &marks{}, &marks{seen: true}
	for _, m := range []*marks{first, second} {
		for _, d := range l {
			for _, b := range buffersOf(d) {
				m.buffer(b)
			}
		}
	}
	return second.lost
}

// P11.8: what Split and SplitDict are handed is not changed, and shares no memory with what they answer.
func TestMemoryOfSplit(t *testing.T) {
	c := newChance(34)
	for range 1500 {
		s := c.schema(3)
		b := c.batch(s, c.Intn(8))
		for k := range b.Columns {
			b.Columns[k] = roomy(b.Columns[k])
		}
		was := api.Batch{Rows: b.Rows}
		for _, d := range b.Columns {
			was.Columns = append(was.Columns, copiedData(d))
		}
		text := printed(s)
		how := c.Intn(3)
		h, body, _ := Split(s, b, how)
		Check(s, b)
		scribble(h, body)
		if !sameBatch(b, was) || printed(s) != text {
			t.Fatalf("%s: what was handed in has changed", text)
		}
		again, body, _ := Split(s, b, how)
		kept, keptBody := again, slices.Clone(body)
		kept.Nodes, kept.Slots = slices.Clone(again.Nodes), slices.Clone(again.Slots)
		for k := range b.Columns {
			each(&b.Columns[k], func(d *api.Data) {
				for _, x := range d.Buffers {
					x = x[:cap(x)]
					for i := range x {
						x[i] = 99
					}
				}
			})
		}
		if !sameHead(again, kept) || !bytes.Equal(body, keptBody) {
			t.Fatalf("%s: the body shares memory with the batch", text)
		}
	}
	f := field(t, "dict(0, int8, w struct(a text, b list(i int8)))")
	d := roomy(values(t, f.Type.Fields[0], `{a:"x",b:[1,2]}`, `{a:"y",b:[]}`))
	was := copiedData(d)
	h, body, _ := SplitDict(f, d, false, api.PressNone)
	scribble(h, body)
	if kind.CheckField(f).Err != api.OK || !sameData(d, was) {
		t.Error("SplitDict: what was handed in has changed")
	}
}

// scribble writes into a head and a body, their spare room too.
func scribble(h api.Head, body []byte) {
	body = body[:cap(body)]
	for i := range body {
		body[i] = 99
	}
	for i := range h.Nodes[:cap(h.Nodes)] {
		h.Nodes[:cap(h.Nodes)][i] = api.Node{Length: 99}
	}
	for i := range h.Slots[:cap(h.Slots)] {
		h.Slots[:cap(h.Slots)][i] = api.Slot{At: 99}
	}
}

// A fault's Path is new memory.
func TestMemoryOfFaults(t *testing.T) {
	s := schema(t, "a struct(b struct(d dict(0, int8, w text)))")
	words := values(t, s.Fields[0].Type.Fields[0].Type.Fields[0].Type.Fields[0], `"x"`)
	b := of(1, structOf(structOf(api.Data{Length: 1, Buffers: [][]byte{nil, {0}}, Dict: []api.Data{words}})))
	h, body, _ := Split(s, b, api.PressNone)
	for range 2 {
		_, x := Join(s, h, body, nil)
		if !is(x, api.ErrUnknown, 0, 0, 0, 0) {
			t.Errorf("%+v", x)
		}
		for i := range x.Path {
			x.Path[i] = 99
		}
	}
}

// Whatever is handed in, each call ends: arrays and fields that stand in themselves, dictionaries too.
func TestEnds(t *testing.T) {
	ring := make([]api.Data, 1)
	ring[0] = api.Data{Length: 1, Buffers: [][]byte{nil}, Children: ring, Dict: ring}
	fields := make([]api.Field, 1)
	fields[0] = api.Field{Name: "a", Type: api.Type{Kind: api.Struct, Fields: fields}}
	rings := api.Schema{Fields: fields}
	s := schema(t, "a struct(b struct(d dict(0, int8, w struct(x struct(y int8)))))")
	h, body, _ := Split(schema(t, "a struct(b struct(d int8))"), of(1, structOf(structOf(api.Data{Length: 1, Buffers: [][]byte{nil, {0}}}))), 0)
	if x := Check(rings, of(1, ring...)); !is(x, api.ErrType, 0) {
		t.Errorf("Check of a schema: %+v", x)
	}
	if x := Check(s, of(1, ring...)); !is(x, api.ErrShape, 0, 0) {
		t.Errorf("Check: %+v", x)
	}
	if _, _, e := Split(rings, of(1, ring...), 0); e != api.ErrType {
		t.Errorf("Split: %d", e)
	}
	if _, x := Join(rings, h, body, nil); !is(x, api.ErrType, 0) {
		t.Errorf("Join: %+v", x)
	}
	if _, x := Join(s, h, body, []api.Told{{ID: 0, Values: ring[0]}}); !is(x, api.ErrShape, 0, 0, 0, 0, 0) {
		t.Errorf("Join with a dictionary: %+v", x)
	}
	if _, _, e := SplitDict(fields[0], ring[0], true, 0); e != api.ErrType {
		t.Errorf("SplitDict: %d", e)
	}
	if _, x := JoinDict(fields[0], h, body); x.Err != api.ErrType {
		t.Errorf("JoinDict: %+v", x)
	}
	h.Schema = rings
	if _, x := Join(s, h, body, nil); !is(x, api.ErrHead, 0) {
		t.Errorf("Join of a head: %+v", x)
	}
}
