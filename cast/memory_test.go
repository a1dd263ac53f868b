package cast

import (
	"reflect"
	"testing"
	"unsafe"

	"colonnade/api"
)

// room is where a list lies, with the room behind it.
type room struct{ from, to uintptr }

func roomOf[T any](l []T) room {
	at := uintptr(unsafe.Pointer(unsafe.SliceData(l)))
	return room{at, at + uintptr(cap(l))*unsafe.Sizeof(*new(T))}
}

// ofValue tells the rooms of all lists of a value.
func ofValue(v api.Value) []room {
	l := []room{roomOf(v.List)}
	for _, x := range v.List[:cap(v.List)] {
		l = append(l, ofValue(x)...)
	}
	return l
}

// ofData tells the rooms of all lists of an array.
func ofData(d api.Data) []room {
	l := []room{roomOf(d.Buffers), roomOf(d.Children), roomOf(d.Dict)}
	for _, b := range d.Buffers {
		l = append(l, roomOf(b))
	}
	for _, x := range append(append([]api.Data(nil), d.Children...), d.Dict...) {
		l = append(l, ofData(x)...)
	}
	return l
}

// apart tells whether none of some rooms shares a byte with another one, or with those of other lists.
func apart(l, others []room) bool {
	for i, a := range l {
		for _, b := range append(append([]room(nil), l[:i]...), others...) {
			if a.from < a.to && b.from < b.to && a.from < b.to && b.from < a.to {
				return false
			}
		}
	}
	return true
}

// roomy is the same value with room behind all its lists, those without values too.
func roomy(v api.Value) api.Value {
	l := make([]api.Value, 0, len(v.List)+2)
	for _, x := range v.List {
		l = append(l, roomy(x))
	}
	copy(l[:cap(l)][len(l):], []api.Value{text("room"), text("room")})
	v.List = l
	return v
}

// whole is a value in memory of its own, with the room behind its lists as if it were theirs.
func whole(v api.Value) api.Value {
	var l []api.Value
	for _, x := range v.List[:cap(v.List)] {
		l = append(l, whole(x))
	}
	v.List = l
	return v
}

// copyOf is an array in memory of its own.
func copyOf(d api.Data) api.Data {
	x := api.Data{Length: d.Length, Offset: d.Offset, Nulls: d.Nulls}
	for _, b := range d.Buffers {
		x.Buffers = append(x.Buffers, append([]byte(nil), b[:cap(b)]...)[:len(b)])
	}
	for _, c := range d.Children {
		x.Children = append(x.Children, copyOf(c))
	}
	for _, c := range d.Dict {
		x.Dict = append(x.Dict, copyOf(c))
	}
	return x
}

// copyOfField is a field in memory of its own.
func copyOfField(f api.Field) api.Field {
	var l []api.Field
	for _, g := range f.Type.Fields {
		l = append(l, copyOfField(g))
	}
	f.Type.Fields = l
	return f
}

// R3: a value that is handed in is not changed, room behind its lists too, and the answer shares no list with it.
func TestMemoryOfValues(t *testing.T) {
	c := newChance(9)
	for range 15000 {
		from, to := c.pair()
		if !Can(from, to) {
			continue
		}
		fromWas, toWas := copyOfField(from), copyOfField(to)
		v := roomy(c.value(from))
		was := whole(v)
		w, _ := Value(from, v, to)
		if !apart(ofValue(w), ofValue(v)) {
			t.Fatal("two lists share memory")
		}
		if !reflect.DeepEqual(whole(v), was) {
			t.Fatal("the value is changed")
		}
		if !reflect.DeepEqual(from, fromWas) || !reflect.DeepEqual(to, toWas) {
			t.Fatal("a field is changed")
		}
	}
}

// R3: a list that stands at several places of a value stands at each of the answer by itself.
func TestMemoryOfOneListTwice(t *testing.T) {
	f := field(t, "list(i list(j int8))")
	l := list(num(1), num(2))
	w, e := Value(f, list(l, l, l), field(t, "list(i list(j int64?))"))
	holdsValue(t, "Value", w, e, list(l, l, l), api.OK)
	if !apart(ofValue(w), ofValue(l)) {
		t.Error("two lists share memory")
	}
}

// R3: an array that is handed in is not changed, and the answer shares no list with it.
func TestMemoryOfArrays(t *testing.T) {
	c := newChance(10)
	for range 3000 {
		from, to := c.pair()
		if !Can(from, to) {
			continue
		}
		fromWas, toWas := copyOfField(from), copyOfField(to)
		d := c.anyhow(t, from, c.values(from))
		was := copyOf(d)
		one, two := castOf(from, d, to, true), castOf(from, d, to, true)
		if !apart(append(ofData(one.d), ofData(two.d)...), ofData(d)) {
			t.Fatal("two lists share memory")
		}
		if lies(d) != lies(was) || !reflect.DeepEqual(from, fromWas) || !reflect.DeepEqual(to, toWas) {
			t.Fatal("what was handed in is changed")
		}
		if one.e != two.e || one.at != two.at || lies(one.d) != lies(two.d) {
			t.Fatal("two answers of one call")
		}
	}
}

// R1: whatever is handed in, each call ends: values and arrays that stand in themselves.
func TestEnds(t *testing.T) {
	values := make([]api.Value, 2)
	values[0].List, values[1].List = values, values
	rings := make([]api.Data, 1)
	rings[0] = api.Data{Length: 1, Buffers: [][]byte{nil, {0, 0, 0, 0, 1, 0, 0, 0}}, Children: rings}
	deep := "int8"
	for range 63 {
		deep = "list(i " + deep + ")"
	}
	for _, s := range []string{"int8", "list(i list(j list(k int8)))", deep} {
		f := field(t, s)
		v, e := Value(f, values[0], f)
		holdsValue(t, s, v, e, api.Value{}, api.ErrValue)
		if _, e, _ := Cast(f, rings[0], f, true); e == api.OK {
			t.Errorf("%s: an array that stands in itself is let by", s)
		}
	}

	v, f := num(1), field(t, deep)
	for range 63 {
		v = list(v)
	}
	w, e := Value(f, v, f)
	holdsValue(t, "as deep as may be", w, e, v, api.OK)
}
