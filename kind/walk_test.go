package kind

import (
	"reflect"
	"slices"
	"strings"
	"testing"

	"colonnade/api"
)

// step is what Walk gives at once.
type step struct {
	Way   []int
	Field api.Field
}

// walked is all that a Walk gives.
func walked(s api.Schema) []step {
	var l []step
	for w, f := range Walk(s) {
		l = append(l, step{w, f})
	}
	return l
}

// modelSteps is all fields in their order.
func modelSteps(s api.Schema) []step {
	var l []step
	for _, x := range flat(s.Fields) {
		l = append(l, step{x.path, x.field})
	}
	return l
}

// P3.7 against the model; P3.3's Count and P3.8's At and Find, too.
func TestWalkModel(t *testing.T) {
	c := newChance(2)
	for range 3000 {
		s := c.schema()
		want := modelSteps(s)
		if got := walked(s); !reflect.DeepEqual(got, want) {
			t.Fatalf("Walk(%v) = %v", s, got)
		}
		if got := Count(s); got != len(want) {
			t.Fatalf("Count(%v) = %d", s, got)
		}
		for _, x := range want {
			if got, e := At(s, x.Way); e != api.OK || !reflect.DeepEqual(got, x.Field) {
				t.Fatalf("At(%v, %v) = %v, %d", s, x.Way, got, e)
			}
			n := len(x.Field.Type.Fields)
			for _, i := range []int{-1, n, n + 1, -1 << 63, 1<<63 - 1} {
				got, e := At(s, append(slices.Clone(x.Way), i, 0))
				if e != api.ErrRange || !reflect.DeepEqual(got, api.Field{}) {
					t.Fatalf("At(%v, %v, %d) = %v, %d", s, x.Way, i, got, e)
				}
			}
		}
		for i, f := range s.Fields {
			if got := Find(s, f.Name); got != i {
				t.Fatalf("Find(%v, %q) = %d", s, f.Name, got)
			}
		}
	}
}

// P3.7: of what may not be nothing is given.
func TestWalkBad(t *testing.T) {
	good := plain("a", api.Int8)
	for _, s := range []api.Schema{of(), of(good, good), of(good, plain("b", 0)), {Fields: []api.Field{good}, Notes: make([]api.Note, 17)}, of(chain(65)), of(crowd(257)...)} {
		if got := walked(s); got != nil {
			t.Errorf("Walk(%v) gives %v", s, got)
		}
	}
	if got := walked(of(chain(64))); len(got) != 64 || len(got[63].Way) != 64 {
		t.Errorf("Walk of 64 levels gives %d", len(got))
	}
	if got := walked(of(crowd(256)...)); len(got) != 256 {
		t.Errorf("Walk of 256 fields gives %d", len(got))
	}
}

// P3.7: it may be left at each field, and ranged over again, also within its own loop.
func TestWalkAgain(t *testing.T) {
	walk := Walk(rich())
	want := modelSteps(rich())
	for stop := range len(want) {
		n := 0
		for w, f := range walk {
			if !reflect.DeepEqual(step{w, f}, want[n]) {
				t.Fatalf("round %d gives %v %v", stop, w, f)
			}
			if n++; n > stop {
				break
			}
		}
		if n != stop+1 {
			t.Fatalf("left at %d: %d given", stop, n)
		}
	}
	outer := 0
	for w, f := range walk {
		inner := 0
		for w, f := range walk {
			if !reflect.DeepEqual(step{w, f}, want[inner]) {
				t.Fatalf("within: %v %v", w, f)
			}
			inner++
		}
		if inner != len(want) || !reflect.DeepEqual(step{w, f}, want[outer]) {
			t.Fatalf("around: %d, %v %v", inner, w, f)
		}
		outer++
	}
	if outer != len(want) {
		t.Errorf("around: %d given", outer)
	}
}

// P3.7, P3.12: Walk gives the schema as it was, in memory of its own.
func TestWalkMemory(t *testing.T) {
	s := rich()
	walk := Walk(s)
	if !reflect.DeepEqual(s, rich()) {
		t.Fatal("Walk changed the schema")
	}
	spoil(s.Fields)
	s.Notes[0].Key = "other"
	want := modelSteps(rich())
	for range 2 {
		var got []step
		for w, f := range walk {
			got = append(got, step{slices.Clone(w), copied([]api.Field{f})[0]})
			spoil(f.Type.Fields)
			for i := range w[:cap(w)] {
				w[:cap(w)][i] = -5
			}
		}
		if !reflect.DeepEqual(got, want) {
			t.Fatalf("Walk gives %v", got)
		}
	}
	kept := rich()
	for _, f := range Walk(kept) {
		spoil(f.Type.Fields)
	}
	if !reflect.DeepEqual(kept, rich()) {
		t.Error("writing into what Walk gave changed the schema")
	}
	all := walked(rich())
	for i := range all {
		spoil(all[i].Field.Type.Fields)
		all[i].Way = append(all[i].Way[:0], slices.Repeat([]int{-5}, cap(all[i].Way))...)
		for k := i + 1; k < len(all); k++ {
			if !reflect.DeepEqual(all[k], want[k]) {
				t.Fatalf("steps %d and %d share memory", i, k)
			}
		}
	}
}

// P3.7: a schema that may be when Walk is called is given, whatever becomes of it; and the other way round.
func TestWalkWhenCalled(t *testing.T) {
	s := of(plain("a", api.Int8), plain("b", api.Int8))
	before := Walk(s)
	s.Fields[1].Name = "a"
	after := Walk(s)
	s.Fields[1].Name = "b"
	n, m := 0, 0
	for range before {
		n++
	}
	for range after {
		m++
	}
	if n != 2 || m != 0 {
		t.Errorf("%d and %d fields given", n, m)
	}
}

// P3.8: the errors in their order.
func TestAt(t *testing.T) {
	a := plain("a", api.Int8)
	for _, x := range []struct {
		s    api.Schema
		path []int
		want string
		e    api.Errno
	}{
		{of(a), []int{0}, "a", api.OK},
		{of(a), nil, "", api.ErrArg},
		{of(a), []int{}, "", api.ErrArg},
		{of(), nil, "", api.ErrArg},
		{of(), []int{0}, "", api.ErrRange},
		{of(a), []int{1}, "", api.ErrRange},
		{of(a), []int{-1}, "", api.ErrRange},
		{of(a), []int{0, 0}, "", api.ErrRange},
		{of(a), []int{0, -1}, "", api.ErrRange},
		{of(a, a), nil, "", api.ErrType},
		{of(a, a), []int{9}, "", api.ErrType},
		{of(a, a), []int{0}, "", api.ErrType},
		{of(with("r", api.Runs, a)), []int{0, 0}, "a", api.OK},
		{of(with("r", api.Runs, a)), []int{0, 1}, "", api.ErrRange},
		{of(dict("d", 0, api.Int8, a)), []int{0, 0}, "a", api.OK},
		{of(chain(64)), make([]int, 64), "a", api.OK},
		{of(chain(64)), make([]int, 65), "", api.ErrRange},
		{of(chain(64)), make([]int, 1<<20), "", api.ErrRange},
	} {
		got, e := At(x.s, x.path)
		if got.Name != x.want || e != x.e {
			t.Errorf("At(%v, %d numbers) = %v, %d", x.s, len(x.path), got, e)
		}
	}
}

// P3.12: what At answers is new memory.
func TestAtMemory(t *testing.T) {
	s := rich()
	for _, x := range modelSteps(rich()) {
		f, _ := At(s, x.Way)
		again, _ := At(s, x.Way)
		spoil(f.Type.Fields)
		if !reflect.DeepEqual(s, rich()) || !reflect.DeepEqual(again, x.Field) {
			t.Fatalf("what At answers at %v is not its own", x.Way)
		}
	}
}

// P3.8: Find.
func TestFind(t *testing.T) {
	s := of(plain("a", api.Int8), with("b", api.Struct, plain("c", api.Int8)), plain("B", api.Int8))
	for name, want := range map[string]int{"a": 0, "b": 1, "B": 2, "c": -1, "": -1, "a ": -1, strings.Repeat("a", 1000): -1} {
		if got := Find(s, name); got != want {
			t.Errorf("Find(%q) = %d", name, got)
		}
	}
	if Find(of(), "a") != -1 || Find(of(plain("a", api.Int8), plain("b", 0)), "a") != -1 || Find(of(plain("", api.Int8)), "") != -1 {
		t.Error("Find of what may not be")
	}
}

// P3.12: no call changes what it is handed, spare room included.
func TestNothingChanges(t *testing.T) {
	s := rich()
	room := s.Fields[:cap(s.Fields)]
	room[len(room)-1].Name = "spare"
	path := append(make([]int, 0, 4), 0, 0)
	Check(s)
	CheckField(s.Fields[0])
	Count(s)
	AlikeSchemas(s, s)
	Print(s)
	PrintField(s.Fields[0])
	Find(s, "d")
	walked(s)
	At(s, path)
	for _, f := range s.Fields {
		Depth(f.Type)
		Shape(f.Type)
		Width(f.Type)
		Parts(f.Type)
		Alike(f.Type, f.Type)
		AlikeFields(f, f)
	}
	if !reflect.DeepEqual(s, rich()) || !slices.Equal(path[:4], []int{0, 0, 0, 0}) {
		t.Error("a call changed its argument")
	}
	for i := len(s.Fields); i < len(room)-1; i++ {
		if room[i].Name != "" || room[i].Type.Fields != nil {
			t.Errorf("a call wrote into spare room %d", i)
		}
	}
	if room[len(room)-1].Name != "spare" {
		t.Error("a call wrote into the last spare room")
	}
}
