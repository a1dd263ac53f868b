package group

import (
	"reflect"
	"runtime"
	"slices"
	"testing"
	"unsafe"

	"colonnade/api"
)

// room is where a list lies, with the room behind it.
type room struct{ from, to uintptr }

func roomOf[T any](l []T) room {
	at := uintptr(unsafe.Pointer(unsafe.SliceData(l)))
	return room{at, at + uintptr(cap(l))*unsafe.Sizeof(*new(T))}
}

// ofFields tells the rooms of a list of fields, and of all lists within.
func ofFields(fields []api.Field) []room {
	l := []room{roomOf(fields)}
	for _, f := range fields {
		l = append(l, ofFields(f.Type.Fields)...)
	}
	return l
}

// ofData tells the rooms of a list of arrays, and of all lists within.
func ofData(list []api.Data) []room {
	l := []room{roomOf(list)}
	for _, d := range list {
		l = append(l, roomOf(d.Buffers))
		for _, b := range d.Buffers {
			l = append(l, roomOf(b))
		}
		l = slices.Concat(l, ofData(d.Children), ofData(d.Dict))
	}
	return l
}

// apart tells whether none of some rooms shares a byte with another one, or with those of other lists.
func apart(l, others []room) bool {
	for i, a := range l {
		for _, b := range slices.Concat(l[:i], others) {
			if a.from < a.to && b.from < b.to && a.from < b.to && b.from < a.to {
				return false
			}
		}
	}
	return true
}

// roomy is the same list, with room behind it that is not empty.
func roomy[T any](l []T, behind T) []T { return append(slices.Clone(l), behind, behind)[:len(l)] }

// roomyFields are the same fields in memory of their own, with room behind all lists.
func roomyFields(fields []api.Field) []api.Field {
	l := roomy(fields, api.Field{Name: "behind"})
	for i := range l {
		l[i].Type.Fields = roomyFields(l[i].Type.Fields)
	}
	return l
}

// roomyData are the same arrays in memory of their own, with room behind all lists.
func roomyData(list []api.Data) []api.Data {
	l := roomy(list, api.Data{Length: 77})
	for i, d := range l {
		l[i].Buffers = roomy(d.Buffers, []byte("behind"))
		for k, b := range d.Buffers {
			l[i].Buffers[k] = roomy(b, 'b')
		}
		l[i].Children, l[i].Dict = roomyData(d.Children), roomyData(d.Dict)
	}
	return l
}

// wholeFields are fields in memory of their own, the room behind all lists as if it were theirs.
func wholeFields(fields []api.Field) []api.Field {
	l := slices.Clone(fields[:cap(fields)])
	for i := range l {
		l[i].Type.Fields = wholeFields(l[i].Type.Fields)
	}
	return l
}

// wholeData are arrays in memory of their own, likewise.
func wholeData(list []api.Data) []api.Data {
	l := slices.Clone(list[:cap(list)])
	for i, d := range l {
		l[i].Buffers = slices.Clone(d.Buffers[:cap(d.Buffers)])
		for k, b := range l[i].Buffers {
			l[i].Buffers[k] = slices.Clone(b[:cap(b)])
		}
		l[i].Children, l[i].Dict = wholeData(d.Children), wholeData(d.Dict)
	}
	return l
}

// given is what is handed in.
type given struct {
	s    api.Schema
	b    api.Batch
	by   []int
	aggs []api.Agg
}

// given makes what may be handed in, with room behind all lists.
func (c *chance) given(t testing.TB) given {
	s := c.schema(3)
	b := c.batch(t, s, c.rows(s, 1+c.Intn(6)))
	by, aggs := c.by(s), c.aggs(s, 3)
	s.Fields, s.Notes = roomyFields(s.Fields), roomy(s.Notes, api.Note{Key: "behind"})
	b.Columns = roomyData(b.Columns)
	return given{s, b, roomy(by, 99), roomy(aggs, api.Agg{Op: 99})}
}

// whole is the same in memory of its own, the room behind all lists as if it were theirs.
func (g given) whole() given {
	g.s.Fields, g.s.Notes = wholeFields(g.s.Fields), slices.Clone(g.s.Notes[:cap(g.s.Notes)])
	g.b.Columns = wholeData(g.b.Columns)
	g.by, g.aggs = slices.Clone(g.by[:cap(g.by)]), slices.Clone(g.aggs[:cap(g.aggs)])
	return g
}

// rooms tells the rooms of all lists.
func (g given) rooms() []room {
	return slices.Concat(ofFields(g.s.Fields), ofData(g.b.Columns), []room{roomOf(g.s.Notes), roomOf(g.by), roomOf(g.aggs)})
}

// answers are what all calls answer, and the rooms of all lists of it.
type answers struct {
	numbers [][]int
	schemas []api.Schema
	batches []api.Batch
	fields  []api.Field
	data    []api.Data
}

func (g given) answers() answers {
	var a answers
	of, firsts, _ := Numbers(g.s, g.b, g.by)
	out, c, _ := Group(g.s, g.b, g.by, g.aggs)
	d, _ := Distinct(g.s, g.b, g.by)
	a.numbers, a.schemas, a.batches = [][]int{of, firsts}, []api.Schema{out}, []api.Batch{c, d}
	for k, f := range g.s.Fields {
		f, d, _ := Dict(f, g.b.Columns[k], 31, api.Int32)
		a.fields, a.data = append(a.fields, f), append(a.data, d)
	}
	return a
}

func (a answers) rooms() []room {
	var l []room
	for _, x := range a.numbers {
		l = append(l, roomOf(x))
	}
	for _, s := range a.schemas {
		l = append(l, ofFields(s.Fields)...)
	}
	for _, b := range a.batches {
		l = append(l, ofData(b.Columns)...)
	}
	// The last two lists are the test's own ones: they share nothing either way.
	return slices.Concat(l, ofFields(a.fields), ofData(a.data))
}

// P20.6: what is handed in is not changed, the room behind it neither; no two lists of answers share memory, nor do they with what was handed in.
func TestMemory(t *testing.T) {
	c := newChance(61)
	for range 2500 {
		g := c.given(t)
		was := g.whole()
		one, two := g.answers(), g.answers()
		if !apart(slices.Concat(one.rooms(), two.rooms()), g.rooms()) {
			t.Fatalf("two lists share memory: %+v", g)
		}
		// Till here none of them may be let go: another one might lie in its place.
		runtime.KeepAlive([]any{one, two, g})
		if !reflect.DeepEqual(g.whole(), was) {
			t.Fatalf("what was handed in is changed: %+v", g)
		}
	}
}

// P20.6: nothing is kept: answers stay, and calls tell the same, whatever is written into what was handed in and into answers.
func TestNothingKept(t *testing.T) {
	c := newChance(62)
	for range 500 {
		g := c.given(t)
		same := given{s: api.Schema{Fields: roomyFields(g.s.Fields), Notes: g.s.Notes}, b: api.Batch{Rows: g.b.Rows, Columns: roomyData(g.b.Columns)}, by: slices.Clone(g.by), aggs: slices.Clone(g.aggs)}
		one, two := g.answers(), g.answers()
		for _, d := range g.b.Columns {
			spoil(d)
		}
		clear(g.by)
		clear(g.aggs)
		clear(g.s.Fields)
		if !reflect.DeepEqual(one, two) {
			t.Fatalf("%+v, not %+v", one, two)
		}
		for _, d := range slices.Concat(two.batches[0].Columns, two.batches[1].Columns, two.data) {
			spoil(d)
		}
		for _, l := range two.numbers {
			clear(l)
		}
		clear(two.schemas[0].Fields)
		if three := same.answers(); !reflect.DeepEqual(one, three) {
			t.Fatalf("%+v, not %+v", one, three)
		}
	}
}

// spoil writes into all bytes of an array.
func spoil(d api.Data) {
	for _, b := range d.Buffers {
		for i := range b {
			b[i] ^= 0xff
		}
	}
	for _, x := range slices.Concat(d.Children, d.Dict) {
		spoil(x)
	}
}
