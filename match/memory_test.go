package match

import (
	"reflect"
	"runtime"
	"slices"
	"testing"
	"unsafe"

	"colonnade/api"
)

// room is where a list lies, with the room behind it.
type room struct{ from, to uintptr }

func roomOf[T any](l []T) room {
	at := uintptr(unsafe.Pointer(unsafe.SliceData(l)))
	return room{at, at + uintptr(cap(l))*unsafe.Sizeof(*new(T))}
}

// ofFields tells the rooms of a list of fields, and of all lists within.
func ofFields(fields []api.Field) []room {
	l := []room{roomOf(fields)}
	for _, f := range fields {
		l = append(l, ofFields(f.Type.Fields)...)
	}
	return l
}

// ofData tells the rooms of a list of arrays, and of all lists within.
func ofData(list []api.Data) []room {
	l := []room{roomOf(list)}
	for _, d := range list {
		l = append(l, roomOf(d.Buffers))
		for _, b := range d.Buffers {
			l = append(l, roomOf(b))
		}
		l = slices.Concat(l, ofData(d.Children), ofData(d.Dict))
	}
	return l
}

// apart tells whether none of some rooms shares a byte with another one, or with those of other lists.
func apart(l, others []room) bool {
	for i, a := range l {
		for _, b := range slices.Concat(l[:i], others) {
			if a.from < a.to && b.from < b.to && a.from < b.to && b.from < a.to {
				return false
			}
		}
	}
	return true
}

// roomy is the same list, with room behind it that is not empty.
func roomy[T any](l []T, behind T) []T { return append(slices.Clone(l), behind, behind)[:len(l)] }

// roomyFields are the same fields in memory of their own, with room behind all lists.
func roomyFields(fields []api.Field) []api.Field {
	l := roomy(fields, api.Field{Name: "behind"})
	for i := range l {
		l[i].Type.Fields = roomyFields(l[i].Type.Fields)
	}
	return l
}

// roomyData are the same arrays in memory of their own, with room behind all lists.
func roomyData(list []api.Data) []api.Data {
	l := roomy(list, api.Data{Length: 77})
	for i, d := range l {
		l[i].Buffers = roomy(d.Buffers, []byte("behind"))
		for k, b := range d.Buffers {
			l[i].Buffers[k] = roomy(b, 'b')
		}
		l[i].Children, l[i].Dict = roomyData(d.Children), roomyData(d.Dict)
	}
	return l
}

// wholeFields are fields in memory of their own, the room behind all lists as if it were theirs.
func wholeFields(fields []api.Field) []api.Field {
	l := slices.Clone(fields[:cap(fields)])
	for i := range l {
		l[i].Type.Fields = wholeFields(l[i].Type.Fields)
	}
	return l
}

// wholeData are arrays in memory of their own, likewise.
func wholeData(list []api.Data) []api.Data {
	l := slices.Clone(list[:cap(list)])
	for i, d := range l {
		l[i].Buffers = slices.Clone(d.Buffers[:cap(d.Buffers)])
		for k, b := range l[i].Buffers {
			l[i].Buffers[k] = slices.Clone(b[:cap(b)])
		}
		l[i].Children, l[i].Dict = wholeData(d.Children), wholeData(d.Dict)
	}
	return l
}

// roomySide is a side in memory of its own, with room behind all lists.
func roomySide(x side) side {
	return side{
		api.Schema{Fields: roomyFields(x.s.Fields), Notes: roomy(x.s.Notes, api.Note{Key: "behind"})},
		api.Batch{Rows: x.b.Rows, Columns: roomyData(x.b.Columns)},
	}
}

// roomyAsk is the same in memory of its own, with room behind all lists.
func roomyAsk(a ask) ask {
	return ask{a.join, roomySide(a.l), roomySide(a.r), roomy(a.k1, 99), roomy(a.k2, 99)}
}

// wholeSide is a side in memory of its own, the room behind all lists as if it were theirs.
func wholeSide(x side) side {
	return side{
		api.Schema{Fields: wholeFields(x.s.Fields), Notes: slices.Clone(x.s.Notes[:cap(x.s.Notes)])},
		api.Batch{Rows: x.b.Rows, Columns: wholeData(x.b.Columns)},
	}
}

// whole is the same in memory of its own, likewise.
func (a ask) whole() ask {
	return ask{a.join, wholeSide(a.l), wholeSide(a.r), slices.Clone(a.k1[:cap(a.k1)]), slices.Clone(a.k2[:cap(a.k2)])}
}

// rooms tells the rooms of all lists.
func (a ask) rooms() []room {
	l := []room{roomOf(a.k1), roomOf(a.k2)}
	for _, x := range []side{a.l, a.r} {
		l = slices.Concat(l, ofFields(x.s.Fields), ofData(x.b.Columns), []room{roomOf(x.s.Notes)})
	}
	return l
}

// answers are what all calls answer.
type answers struct {
	pairs   [][2]int
	schemas []api.Schema
	batch   api.Batch
}

func (a ask) answers() answers {
	p, _ := a.pairs()
	s, _ := a.schema()
	out, b, _ := a.both()
	return answers{p, []api.Schema{s, out}, b}
}

func (x answers) rooms() []room {
	l := append(ofData(x.batch.Columns), roomOf(x.pairs))
	for _, s := range x.schemas {
		l = append(l, ofFields(s.Fields)...)
	}
	return l
}

// P21.5: what is handed in is not changed, the room behind it neither; no two lists of answers share memory, nor do they with what was handed in.
func TestMemory(t *testing.T) {
	c := newChance(71)
	for range 1500 {
		a := roomyAsk(c.ask(t, 6))
		was := a.whole()
		one, two := a.answers(), a.answers()
		if !apart(slices.Concat(one.rooms(), two.rooms()), a.rooms()) {
			t.Fatalf("two lists share memory: %+v", a)
		}
		// Till here none of them may be let go: another one might lie in its place.
		runtime.KeepAlive([]any{one, two, a})
		if !reflect.DeepEqual(a.whole(), was) {
			t.Fatalf("what was handed in is changed: %+v", a)
		}
	}
}

// P21.5: nothing is kept: answers stay, and calls tell the same, whatever is written into what was handed in and into answers.
func TestNothingKept(t *testing.T) {
	c := newChance(72)
	for range 400 {
		a := c.ask(t, 6)
		same := roomyAsk(a)
		one, two := a.answers(), a.answers()
		for _, x := range []side{a.l, a.r} {
			for _, d := range x.b.Columns {
				spoil(d)
			}
			clear(x.s.Fields)
		}
		clear(a.k1)
		clear(a.k2)
		if !reflect.DeepEqual(one, two) {
			t.Fatalf("%+v, not %+v", one, two)
		}
		for _, d := range two.batch.Columns {
			spoil(d)
		}
		clear(two.pairs)
		clear(two.schemas[0].Fields)
		clear(two.schemas[1].Fields)
		if three := same.answers(); !reflect.DeepEqual(one, three) {
			t.Fatalf("%+v, not %+v", one, three)
		}
	}
}

// spoil writes into all bytes of an array.
func spoil(d api.Data) {
	for _, b := range d.Buffers {
		for i := range b {
			b[i] ^= 0xff
		}
	}
	for _, x := range slices.Concat(d.Children, d.Dict) {
		spoil(x)
	}
}
