package calc

import (
	"reflect"
	"slices"
	"testing"
	"unsafe"

	"colonnade/api"
)

// room is where a list lies, with the room behind it.
type room struct{ from, to uintptr }

func roomOf[T any](l []T) room {
	at := uintptr(unsafe.Pointer(unsafe.SliceData(l)))
	return room{at, at + uintptr(cap(l))*unsafe.Sizeof(*new(T))}
}

// ofField tells the rooms of all lists of a field.
func ofField(f api.Field) []room {
	l := []room{roomOf(f.Type.Fields)}
	for _, g := range f.Type.Fields {
		l = append(l, ofField(g)...)
	}
	return l
}

// ofData tells the rooms of all lists of an array.
func ofData(d api.Data) []room {
	l := []room{roomOf(d.Buffers), roomOf(d.Children), roomOf(d.Dict)}
	for _, b := range d.Buffers {
		l = append(l, roomOf(b))
	}
	for _, x := range append(append([]api.Data(nil), d.Children...), d.Dict...) {
		l = append(l, ofData(x)...)
	}
	return l
}

// apart tells whether none of some rooms shares a byte with another one, or with those of other lists.
func apart(l, others []room) bool {
	for i, a := range l {
		for _, b := range append(append([]room(nil), l[:i]...), others...) {
			if a.from < a.to && b.from < b.to && a.from < b.to && b.from < a.to {
				return false
			}
		}
	}
	return true
}

// copyOf is an array in memory of its own, with the room behind its buffers as if it were theirs.
func copyOf(d api.Data) api.Data {
	x := api.Data{Length: d.Length, Offset: d.Offset, Nulls: d.Nulls}
	for _, b := range d.Buffers {
		x.Buffers = append(x.Buffers, slices.Clone(b[:cap(b)]))
	}
	for _, c := range d.Children {
		x.Children = append(x.Children, copyOf(c))
	}
	for _, c := range d.Dict {
		x.Dict = append(x.Dict, copyOf(c))
	}
	return x
}

// copyOfField is a field in memory of its own.
func copyOfField(f api.Field) api.Field {
	var l []api.Field
	for _, g := range f.Type.Fields {
		l = append(l, copyOfField(g))
	}
	f.Type.Fields = l
	return f
}

// P17.5 (R3): nothing that is handed in is changed, and neither a field nor an array that is answered shares a list with it, or with another answer.
func TestMemory(t *testing.T) {
	c := newChance(21)
	for range 4000 {
		op, l := c.call()
		if modelError(op, l) != api.OK {
			continue
		}
		d := c.arrays(t, l, c.columns(l))
		var fieldsWere []api.Field
		var were []api.Data
		rooms := []room{roomOf(l), roomOf(d)}
		for k, f := range l {
			fieldsWere, were = append(fieldsWere, copyOfField(f)), append(were, copyOf(d[k]))
			rooms = append(append(rooms, ofField(f)...), ofData(d[k])...)
		}
		f, _ := Type(op, l)
		g, _ := Type(op, l)
		one, two := doOf(op, l, d...), doOf(op, l, d...)
		answers := slices.Concat(ofField(f), ofField(g), ofData(one.d), ofData(two.d))
		if !apart(answers, rooms) {
			t.Fatalf("operation %d: two lists share memory", op)
		}
		for k, f := range l {
			if lies(copyOf(d[k])) != lies(were[k]) || !reflect.DeepEqual(copyOfField(f), fieldsWere[k]) {
				t.Fatalf("operation %d: what was handed in is changed", op)
			}
		}
		same(t, "two answers of one call", one, two)
	}
}

// P17.5 (R3): one array may stand at all places.
func TestOneArrayTwice(t *testing.T) {
	c := newChance(22)
	for range 1000 {
		f := c.around("a", c.taken(api.OpElse))
		l := []api.Field{f, f}
		column := c.column(f, 3)
		d := c.anyhow(t, f, column)
		for _, op := range []int{api.OpElse, api.OpEq, api.OpLt} {
			same(t, "the same array", doOf(op, l, d, d), modelDo(op, l, [][]api.Value{column, column}))
		}
	}
}

// R1: whatever is handed in, each call ends: types and arrays that stand in themselves.
func TestEnds(t *testing.T) {
	ring := make([]api.Field, 1)
	ring[0] = api.Field{Name: "i", Type: api.Type{Kind: api.List, Fields: ring}}
	names := make([]api.Field, 1)
	names[0] = api.Field{Name: "i", Type: api.Type{Kind: api.Runs, Fields: names}}
	data := make([]api.Data, 1)
	data[0] = api.Data{Length: 1, Buffers: [][]byte{nil, {0, 0, 0, 0, 1, 0, 0, 0}}, Children: data}
	deep := field(t, "a list(i list(j list(k int8)))")
	for _, op := range append(operations(), noOps...) {
		for n := range 5 {
			for _, f := range []api.Field{ring[0], names[0]} {
				l := slices.Repeat([]api.Field{f}, n)
				same(t, "a type in itself", doOf(op, l, slices.Repeat(data, n)...), answer{e: modelError(op, l)})
			}
			l := slices.Repeat([]api.Field{deep}, n)
			if got := doOf(op, l, slices.Repeat(data, n)...); got.e == api.OK {
				t.Errorf("%d: an array that stands in itself is let by", op)
			}
		}
	}
}
