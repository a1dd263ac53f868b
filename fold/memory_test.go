package fold

import (
	"reflect"
	"runtime"
	"slices"
	"testing"
	"unsafe"

	"colonnade/api"
)

// room is where a list lies, with the room behind it.
type room struct{ from, to uintptr }

func roomOf[T any](l []T) room {
	at := uintptr(unsafe.Pointer(unsafe.SliceData(l)))
	return room{at, at + uintptr(cap(l))*unsafe.Sizeof(*new(T))}
}

// ofField tells the rooms of all lists of a field.
func ofField(f api.Field) []room {
	l := []room{roomOf(f.Type.Fields)}
	for _, g := range f.Type.Fields {
		l = append(l, ofField(g)...)
	}
	return l
}

// ofData tells the rooms of all lists of an array.
func ofData(d api.Data) []room {
	l := []room{roomOf(d.Buffers), roomOf(d.Children), roomOf(d.Dict)}
	for _, b := range d.Buffers {
		l = append(l, roomOf(b))
	}
	for _, x := range append(append([]api.Data(nil), d.Children...), d.Dict...) {
		l = append(l, ofData(x)...)
	}
	return l
}

// apart tells whether none of some rooms shares a byte with another one, or with those of other lists.
func apart(l, others []room) bool {
	for i, a := range l {
		for _, b := range append(append([]room(nil), l[:i]...), others...) {
			if a.from < a.to && b.from < b.to && a.from < b.to && b.from < a.to {
				return false
			}
		}
	}
	return true
}

// copyOf is an array in memory of its own, with the room behind its buffers as if it were theirs.
func copyOf(d api.Data) api.Data {
	x := api.Data{Length: d.Length, Offset: d.Offset, Nulls: d.Nulls}
	for _, b := range d.Buffers {
		x.Buffers = append(x.Buffers, slices.Clone(b[:cap(b)]))
	}
	for _, c := range d.Children {
		x.Children = append(x.Children, copyOf(c))
	}
	for _, c := range d.Dict {
		x.Dict = append(x.Dict, copyOf(c))
	}
	return x
}

// copyOfField is a field in memory of its own.
func copyOfField(f api.Field) api.Field {
	var l []api.Field
	for _, g := range f.Type.Fields {
		l = append(l, copyOfField(g))
	}
	f.Type.Fields = l
	return f
}

// ofValue tells the rooms of all lists of a value.
func ofValue(v api.Value) []room {
	l := []room{roomOf(v.List)}
	for _, x := range v.List {
		l = append(l, ofValue(x)...)
	}
	return l
}

// roomsOf tells the rooms of all lists that something holds, by whatever way leads to them.
func roomsOf(x reflect.Value) []room {
	var l []room
	switch x.Kind() {
	case reflect.Pointer, reflect.Interface:
		if !x.IsNil() {
			l = roomsOf(x.Elem())
		}
	case reflect.Struct:
		for i := range x.NumField() {
			l = append(l, roomsOf(x.Field(i))...)
		}
	case reflect.Slice:
		at := x.Pointer()
		l = append(l, room{at, at + uintptr(x.Cap())*x.Type().Elem().Size()})
		for i := range x.Len() {
			l = append(l, roomsOf(x.Index(i))...)
		}
	}
	return l
}

// P18.7: nothing that is handed in is changed or kept; fields and values that are answered share nothing with anything; two aggregates have nothing in common.
func TestMemory(t *testing.T) {
	c := newChance(9)
	for range 4000 {
		op, f := c.call()
		d := c.anyhow(t, f, c.column(f, 1+c.Intn(4)))
		rows := []int{c.Intn(d.Length), c.Intn(d.Length)}
		fieldWas, was, rowsWere := copyOfField(f), copyOf(d), slices.Clone(rows)
		f1, _ := Type(op, f)
		f2, _ := Type(op, f)
		x, o := newOf(t, op, f), newOf(t, op, f)
		for _, e := range []api.Errno{x.Add(d), x.AddRows(d, rows), o.AddRows(d, rows), o.Merge(x)} {
			if e != api.OK {
				t.Fatal(e)
			}
		}
		y := o.Copy()
		rooms := slices.Concat(ofField(f), ofData(d), []room{roomOf(rows)})
		var kept []api.Value // none may be let go as long as rooms are held against each other: another list might lie in its place
		for _, a := range []*Fold{x, o, y} {
			held := roomsOf(reflect.ValueOf(a))
			v, _ := a.Value()
			w, _ := a.Value()
			kept = append(kept, v, w)
			told := slices.Concat(ofValue(v), ofValue(w))
			if !apart(held, rooms) || !apart(told, slices.Concat(rooms, held)) {
				t.Fatalf("operation %d: two lists share memory", op)
			}
			rooms = slices.Concat(rooms, held, told)
		}
		if !apart(slices.Concat(ofField(f1), ofField(f2)), rooms) {
			t.Fatalf("operation %d: fields share memory", op)
		}
		runtime.KeepAlive([]any{x, o, y, kept, f1, f2})
		if lies(copyOf(d)) != lies(was) || !reflect.DeepEqual(copyOfField(f), fieldWas) || !slices.Equal(rows, rowsWere) {
			t.Fatalf("operation %d: what was handed in is changed", op)
		}
	}
}

// scribble writes into all lists of a value.
func scribble(v api.Value) {
	for i := range v.List {
		scribble(v.List[i])
		v.List[i] = api.Value{Text: "scribbled"}
	}
}

// P18.7: whatever is written into what was handed in, or into answers, an aggregate tells the same.
func TestWrites(t *testing.T) {
	c := newChance(10)
	for range 3000 {
		op, f := c.call()
		l := c.column(f, c.Intn(5))
		g := copyOfField(f)
		d := c.anyhow(t, f, l)
		x := newOf(t, op, g)
		c.spoil(&g)
		if e := x.Add(d); e != api.OK {
			t.Fatal(e)
		}
		for _, b := range buffersOf(d) {
			for i := range b {
				b[i] ^= 0xff
			}
		}
		want, err := modelValue(op, f, l)
		for range 2 {
			holds(t, "behind writes", x, want, err)
			v, _ := x.Value()
			scribble(v)
		}
	}
}

// spoil writes into all fields within a field.
func (c *chance) spoil(f *api.Field) {
	for i := range f.Type.Fields {
		c.spoil(&f.Type.Fields[i])
		f.Type.Fields[i] = api.Field{}
	}
}

// buffersOf tells the very buffers of an array, those within too.
func buffersOf(d api.Data) [][]byte {
	l := slices.Clone(d.Buffers)
	for _, x := range slices.Concat(d.Children, d.Dict) {
		l = append(l, buffersOf(x)...)
	}
	return l
}

// P18.5: a copy has taken in the same, and from then on neither sees what is done to the other.
func TestCopies(t *testing.T) {
	c := newChance(11)
	for range 4000 {
		op, f := c.call()
		l := c.column(f, c.Intn(4))
		x := newOf(t, op, f)
		c.take(t, x, f, l)
		y := x.Copy()
		want, err := modelValue(op, f, l)
		more := c.column(f, c.Intn(4))
		c.take(t, x, f, more)
		holds(t, "the copy", y, want, err)
		other := c.column(f, c.Intn(4))
		c.take(t, y, f, other)
		want, err = modelValue(op, f, slices.Concat(l, more))
		holds(t, "what was copied", x, want, err)
		want, err = modelValue(op, f, slices.Concat(l, other))
		holds(t, "the copy, with more", y, want, err)
		if e := x.Merge(y); e != api.OK {
			t.Fatal(e)
		}
		holds(t, "the copy, merged", y, want, err)
		want, err = modelValue(op, f, slices.Concat(l, more, l, other))
		holds(t, "both", x, want, err)
	}
}

// R1: whatever is handed in, each call ends: types and arrays that stand in themselves.
func TestEnds(t *testing.T) {
	ring := make([]api.Field, 1)
	ring[0] = api.Field{Name: "i", Type: api.Type{Kind: api.List, Fields: ring}}
	names := make([]api.Field, 1)
	names[0] = api.Field{Name: "i", Type: api.Type{Kind: api.Runs, Fields: names}}
	data := make([]api.Data, 1)
	data[0] = api.Data{Length: 1, Buffers: [][]byte{nil, {0, 0, 0, 0, 1, 0, 0, 0}}, Children: data}
	deep := field(t, "a list(i list(j list(k int8)))")
	for _, op := range append(operations(), noOps...) {
		for _, f := range []api.Field{ring[0], names[0]} {
			if x, e := New(op, f); x != nil || e != api.ErrType {
				t.Errorf("operation %d of a type in itself: %d", op, e)
			}
		}
		x, e := New(op, deep)
		if e == api.OK && (x.Add(data[0]) == api.OK || x.AddRows(data[0], []int{0}) == api.OK) {
			t.Errorf("operation %d: an array that stands in itself is let by", op)
		}
	}
}

// R1: a heavy value among many light ones is compared in good time.
func TestHeavy(t *testing.T) {
	f := field(t, "a list(i dict(0, int8, w list(j int8)))")
	words := formOf(t, field(t, "w list(j int8)"), []api.Value{{List: make([]api.Value, 4096)}})
	items := api.Data{Length: 60, Buffers: [][]byte{nil, make([]byte, 60)}, Dict: []api.Data{words}}
	offsets := make([]byte, 4)
	for range 4001 {
		offsets = append(offsets, 60, 0, 0, 0)
	}
	d := api.Data{Length: 4001, Buffers: [][]byte{nil, offsets}, Children: []api.Data{items}}
	for op, want := range map[int]int{api.AggMax: 60, api.AggMin: 0, api.AggFirst: 60, api.AggLast: 0} {
		if v, e := foldOf(t, op, f, d).Value(); e != api.OK || len(v.List) != want {
			t.Errorf("operation %d: %d items, %d", op, len(v.List), e)
		}
	}
}
