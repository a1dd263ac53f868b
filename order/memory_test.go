package order

import (
	"reflect"
	"runtime"
	"slices"
	"testing"
	"unsafe"

	"colonnade/api"
)

// room is where a list lies, with the room behind it.
type room struct{ from, to uintptr }

func roomOf[T any](l []T) room {
	at := uintptr(unsafe.Pointer(unsafe.SliceData(l)))
	return room{at, at + uintptr(cap(l))*unsafe.Sizeof(*new(T))}
}

// ofData tells the rooms of all lists of arrays.
func ofData(list ...api.Data) []room {
	var l []room
	for _, d := range list {
		l = append(l, roomOf(d.Buffers), roomOf(d.Children), roomOf(d.Dict))
		for _, b := range d.Buffers {
			l = append(l, roomOf(b))
		}
		l = slices.Concat(l, ofData(d.Children...), ofData(d.Dict...))
	}
	return l
}

// apart tells whether none of some rooms shares a byte with another one, or with those of other lists.
func apart(l, others []room) bool {
	for i, a := range l {
		for _, b := range slices.Concat(l[:i], others) {
			if a.from < a.to && b.from < b.to && a.from < b.to && b.from < a.to {
				return false
			}
		}
	}
	return true
}

// copyOf is an array in memory of its own, with the room behind its buffers as if it were theirs.
func copyOf(d api.Data) api.Data {
	x := api.Data{Length: d.Length, Offset: d.Offset, Nulls: d.Nulls}
	for _, b := range d.Buffers {
		x.Buffers = append(x.Buffers, slices.Clone(b[:cap(b)]))
	}
	for _, c := range d.Children {
		x.Children = append(x.Children, copyOf(c))
	}
	for _, c := range d.Dict {
		x.Dict = append(x.Dict, copyOf(c))
	}
	return x
}

// liesOf tells how a batch lies, the room behind its buffers too.
func liesOf(b api.Batch) string {
	s := ""
	for _, d := range b.Columns {
		s += lies(copyOf(d))
	}
	return s
}

// copyOfField is a field in memory of its own.
func copyOfField(f api.Field) api.Field {
	var l []api.Field
	for _, g := range f.Type.Fields {
		l = append(l, copyOfField(g))
	}
	f.Type.Fields = l
	return f
}

// fieldsOf are the fields of a schema in memory of their own.
func fieldsOf(s api.Schema) []api.Field {
	var l []api.Field
	for _, f := range s.Fields {
		l = append(l, copyOfField(f))
	}
	return l
}

// answers are lists that all calls answer, each call several times.
func answers(t *testing.T, s api.Schema, b api.Batch, batches []api.Batch, keys []api.Key) (rows [][]int, places [][][2]int) {
	t.Helper()
	for range 2 {
		for _, workers := range []int{1, 3, 8} {
			sort, _ := Sort(s, b, keys, workers)
			top, _ := Top(s, b, keys, 2, workers)
			all, _ := Top(s, b, keys, 99, workers)
			rows = append(rows, sort, top, all)
		}
		ranks, _ := Ranks(s, b, keys)
		merge, e := Merge(s, batches, keys)
		alone, f := Merge(s, batches[:1], keys)
		if e != api.OK || f != api.OK {
			t.Fatal(e, f)
		}
		rows, places = append(rows, ranks), append(places, merge, alone)
	}
	return rows, places
}

// P19.5: what is handed in is not changed, the room behind it neither; lists that are answered share nothing with it, nor with one another.
func TestMemory(t *testing.T) {
	c := newChance(31)
	for range 1500 {
		s := c.schema(3)
		keys := append(make([]api.Key, 0, 9), c.keys(s)...)
		b := c.batch(t, s, c.rows(s, 1+c.Intn(6)))
		one := c.batch(t, s, c.rows(s, 1))
		batches := append(make([]api.Batch, 0, 5), one, one, c.batch(t, s, c.rows(s, 1)))
		fields, lay, keysWere, rooms := fieldsOf(s), liesOf(b)+liesOf(one), slices.Clone(keys[:cap(keys)]), ofData(b.Columns...)
		rooms = append(rooms, roomOf(keys), roomOf(batches), roomOf(b.Columns))
		for _, x := range batches {
			rooms = append(rooms, ofData(x.Columns...)...)
		}
		rows, places := answers(t, s, b, batches, keys)
		var told []room
		for _, l := range rows {
			told = append(told, roomOf(l))
		}
		for _, l := range places {
			told = append(told, roomOf(l))
		}
		if !apart(told, rooms) {
			t.Fatal("two lists share memory")
		}
		// Till here none of them may be let go: another one might lie in its place.
		runtime.KeepAlive(rows)
		runtime.KeepAlive(places)
		if !reflect.DeepEqual(fields, fieldsOf(s)) || liesOf(b)+liesOf(one) != lay || !slices.Equal(keys[:cap(keys)], keysWere) || batches[:5][4].Columns != nil {
			t.Fatal("what was handed in is changed")
		}
	}
}

// P19.5: what is answered hangs on what the arrays denote alone, not on how they lie.
func TestLies(t *testing.T) {
	c := newChance(32)
	for range 1500 {
		s := c.schema(3)
		rows := c.rows(s, c.Intn(9))
		keys := c.keys(s)
		form := batchOf(t, s, rows)
		want, _ := Sort(s, form, keys, 1)
		ranks, _ := Ranks(s, form, keys)
		is, _ := Sorted(s, form, keys)
		merge, err := Merge(s, []api.Batch{form, form}, keys)
		for range 2 {
			x, y := c.batch(t, s, rows), c.batch(t, s, rows)
			if l, e := Sort(s, x, keys, 1); e != api.OK || !slices.Equal(l, want) {
				t.Fatalf("Sort: %v, %d, not %v", l, e, want)
			}
			if l, e := Ranks(s, x, keys); e != api.OK || !slices.Equal(l, ranks) {
				t.Fatalf("Ranks: %v, %d, not %v", l, e, ranks)
			}
			if b, e := Sorted(s, x, keys); e != api.OK || b != is {
				t.Fatalf("Sorted: %v, %d, not %v", b, e, is)
			}
			if l, e := Merge(s, []api.Batch{x, y}, keys); e != err || !slices.Equal(l, merge) {
				t.Fatalf("Merge: %v, %d, not %v, %d", l, e, merge, err)
			}
		}
	}
}

// P19.5: nothing is kept: a call tells the same behind others, and behind writes into what was handed in and into what was answered.
func TestNothingKept(t *testing.T) {
	s := schemaOf(t, "a int8, b text")
	keys := []api.Key{{Column: 0}}
	for range 3 {
		b := batchOfTexts(t, s, `3 "x"`, `1 "y"`, `2 "z"`)
		l, e := Sort(s, b, keys, 2)
		if e != api.OK || !slices.Equal(l, []int{1, 2, 0}) {
			t.Fatalf("%v, %d", l, e)
		}
		clear(l[:cap(l)])
		b.Columns[0].Buffers[1][1] = 9
		if l, e := Sort(s, b, keys, 2); e != api.OK || !slices.Equal(l, []int{2, 0, 1}) {
			t.Fatalf("%v, %d", l, e)
		}
	}
}
