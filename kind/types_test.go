package kind

import (
	"reflect"
	"slices"
	"testing"

	"colonnade/api"
)

// bare are types of all kinds, with the fewest children and with more; and types that may not be.
func bare() (good, bad []api.Type) {
	a, b := plain("a", api.Int8), maybe(plain("b", api.Text))
	for k := api.Null; k <= api.Bytes; k++ {
		good = append(good, api.Type{Kind: k})
		bad = append(bad, api.Type{Kind: k, Width: 1}, api.Type{Kind: k, Fields: []api.Field{a}})
	}
	for _, f := range []api.Field{
		wide("x", api.Fixed, 1), wide("x", api.Fixed, 16), with("x", api.List, a), with("x", api.List, b), wide("x", api.Span, 64, b),
		with("x", api.Struct), with("x", api.Struct, a, b), with("x", api.Choice, a), with("x", api.Choice, b, a),
		with("x", api.Runs, a), with("x", api.Runs, b),
		with("x", api.Struct, with("l", api.List, with("s", api.Struct)), a, wide("k", api.Span, 2, b)),
	} {
		good = append(good, f.Type)
	}
	for k := api.Int8; k <= api.Uint64; k++ {
		good = append(good, dict("x", k, k, with("s", api.Struct, b)).Type)
	}
	bad = append(bad, api.Type{}, api.Type{Kind: 21}, api.Type{Kind: -1}, api.Type{Kind: api.Fixed, Width: 17}, api.Type{Kind: api.List}, api.Type{Kind: api.Runs},
		api.Type{Kind: api.Choice}, with("x", api.List, plain("", api.Int8)).Type, dict("x", 0, api.Int8, b).Type, dict("x", 0, 0, a).Type,
		dict("x", 0, api.Uint64, with("r", api.Runs, a)).Type, with("x", api.Runs, a, b).Type, chain(65).Type, with("x", api.Struct, a, a).Type)
	return good, bad
}

// P3.3 to P3.6: of what may not be.
func TestTypesBad(t *testing.T) {
	good, bad := bare()
	for _, b := range bad {
		x, y, z := Shape(b)
		if Depth(b) != 0 || Width(b) != 0 || len(Parts(b)) != 0 || x != -1 || y != -1 || z != -1 {
			t.Errorf("%v: %d, %d, %v, %d %d %d", b, Depth(b), Width(b), Parts(b), x, y, z)
		}
		if Alike(b, b) || Alike(b, good[0]) || Alike(good[0], b) {
			t.Errorf("%v is alike", b)
		}
	}
}

// modelDepth is the document's word of how deep a type is.
func modelDepth(t api.Type) int {
	d := 0
	for _, f := range t.Fields {
		d = max(d, modelDepth(f.Type))
	}
	return 1 + d
}

// P3.3: Depth and Count.
func TestDepth(t *testing.T) {
	good, _ := bare()
	for _, g := range good {
		if got := Depth(g); got != modelDepth(g) {
			t.Errorf("Depth(%v) = %d", g, got)
		}
	}
	for _, n := range []int{1, 2, 63, 64} {
		if got := Depth(chain(n).Type); got != n {
			t.Errorf("Depth of %d levels = %d", n, got)
		}
	}
	if Depth(with("s", api.Struct, chain(1), with("b", api.List, chain(4)), with("c", api.List, chain(2))).Type) != 6 {
		t.Error("Depth of the deepest child")
	}
	for _, n := range []int{0, 1, 33, 255, 256} {
		if got := Count(of(crowd(n)...)); got != n {
			t.Errorf("Count of %d = %d", n, got)
		}
	}
	if Count(of(crowd(257)...)) != 0 || Count(of(chain(65))) != 0 || Count(api.Schema{Fields: crowd(1), Notes: make([]api.Note, 17)}) != 0 {
		t.Error("Count of what may not be")
	}
}

// P3.3: a type that may be as a field's, whatever Nullable must be for it.
func TestTypeMayBe(t *testing.T) {
	a := plain("a", api.Int8)
	for _, x := range []struct {
		t    api.Type
		want int
	}{
		{plain("n", api.Null).Type, 1},
		{with("r", api.Runs, a).Type, 2},
		{with("r", api.Runs, maybe(a)).Type, 2},
		{with("r", api.Runs, maybe(with("q", api.Runs, maybe(a)))).Type, 3},
		{with("r", api.Runs, maybe(with("q", api.Runs, a))).Type, 0},
		{with("r", api.Runs, maybe(plain("n", api.Null))).Type, 2},
		{with("r", api.Runs, maybe(with("c", api.Choice, a))).Type, 0},
		{with("c", api.Choice, a).Type, 2},
		{with("l", api.List, plain("n", api.Null)).Type, 0},
	} {
		if got := Depth(x.t); got != x.want {
			t.Errorf("Depth(%v) = %d, want %d", x.t, got, x.want)
		}
	}
}

// P3.4: of many types each is alike with itself alone.
func TestAlike(t *testing.T) {
	good, _ := bare()
	good = append(good,
		dict("x", 3, api.Int8, chain(1)).Type, dict("x", 4, api.Int8, chain(1)).Type, dict("x", 3, api.Int16, chain(1)).Type,
		with("x", api.List, plain("b", api.Int8)).Type, with("x", api.List, maybe(plain("a", api.Int8))).Type, with("x", api.List, plain("a", api.Int16)).Type,
		wide("x", api.Span, 63, maybe(plain("b", api.Text))).Type, wide("x", api.Fixed, 2).Type, chain(3).Type, chain(4).Type,
		with("x", api.Struct, plain("a", api.Int8)).Type, with("x", api.Struct, plain("a", api.Int8), maybe(plain("b", api.Text)), plain("c", api.Bool)).Type,
		with("x", api.Struct, maybe(plain("b", api.Text)), plain("a", api.Int8)).Type)
	for i, a := range good {
		for k, b := range good {
			if got := Alike(a, copiedType(b)); got != (i == k) {
				t.Errorf("Alike(%v, %v) = %v", a, b, got)
			}
		}
	}
}

// P3.4: fields.
func TestAlikeFields(t *testing.T) {
	a, b := plain("a", api.Int8), plain("b", api.Int8)
	null := maybe(plain("n", api.Null))
	for _, x := range []struct {
		a, b api.Field
		want bool
	}{
		{a, a, true}, {a, b, true}, {a, maybe(b), false}, {maybe(a), maybe(b), true}, {a, plain("a", api.Int16), false},
		{with("x", api.List, a), with("y", api.List, a), true}, {with("x", api.List, a), with("x", api.List, b), false},
		{null, null, true}, {null, plain("n", api.Null), false}, {plain("n", api.Null), plain("n", api.Null), false},
		{plain("", api.Int8), a, false}, {a, plain("9", api.Int8), false}, {chain(64), chain(64), true}, {chain(65), chain(65), false},
		{with("r", api.Runs, maybe(a)), with("r", api.Runs, maybe(a)), false},
		{maybe(with("c", api.Choice, a)), maybe(with("c", api.Choice, a)), false},
	} {
		if got := AlikeFields(x.a, x.b); got != x.want {
			t.Errorf("AlikeFields(%v, %v) = %v", x.a, x.b, got)
		}
	}
}

// P3.4: schemas.
func TestAlikeSchemas(t *testing.T) {
	a, b := plain("a", api.Int8), plain("b", api.Int8)
	noted := api.Schema{Fields: []api.Field{a, b}, Notes: []api.Note{{Key: "k"}}}
	for _, x := range []struct {
		a, b api.Schema
		want bool
	}{
		{of(), api.Schema{Fields: []api.Field{}, Notes: []api.Note{{}}}, true},
		{of(a, b), of(a, b), true}, {of(a, b), noted, true}, {noted, of(a, b), true}, {of(a, b), of(b, a), false}, {of(a), of(b), false},
		{of(a, b), of(a), false}, {of(a), of(a, b), false}, {of(a), of(maybe(a)), false}, {of(a), of(plain("a", api.Bool)), false},
		{of(a, a), of(a, a), false}, {of(a), api.Schema{Fields: []api.Field{a}, Notes: make([]api.Note, 17)}, false},
		{api.Schema{Fields: []api.Field{a}, Notes: make([]api.Note, 17)}, of(a), false},
		{of(with("s", api.Struct, a, b)), of(with("s", api.Struct, a, b)), true}, {of(with("s", api.Struct, a, b)), of(with("s", api.Struct, b, a)), false},
	} {
		if got := AlikeSchemas(x.a, x.b); got != x.want {
			t.Errorf("AlikeSchemas(%v, %v) = %v", x.a, x.b, got)
		}
	}
}

// P3.5 and P3.6 against the model's table.
func TestShape(t *testing.T) {
	good, _ := bare()
	ends := plain("ends", api.Int32)
	for _, g := range good {
		r := modelTable[g.Kind]
		parts, dicts, width := g.Fields, 0, r.bytes
		switch r.word {
		case "dict":
			parts, dicts, width = nil, 1, modelTable[g.Index].bytes
		case "runs":
			parts = []api.Field{ends, g.Fields[0]}
		case "fixed":
			width = g.Width
		}
		if x, y, z := Shape(g); x != r.buffers || y != len(parts) || z != dicts {
			t.Errorf("Shape(%v) = %d %d %d", g, x, y, z)
		}
		if got := Width(g); got != width {
			t.Errorf("Width(%v) = %d", g, got)
		}
		if got := Parts(g); len(got) != len(parts) || len(parts) > 0 && !reflect.DeepEqual(got, parts) {
			t.Errorf("Parts(%v) = %v", g, got)
		}
	}
	if x, y, z := Shape(with("c", api.Choice, crowd(255)...).Type); x != 2 || y != 8 || z != 0 {
		t.Errorf("Shape of a choice of eight: %d %d %d", x, y, z)
	}
}

// spoil writes over all lists of fields, within one another too, and over their spare room.
func spoil(l []api.Field) {
	for i := range l {
		spoil(l[i].Type.Fields)
	}
	for i := range l[:cap(l)] {
		l[:cap(l)][i] = api.Field{Name: "spoilt", Type: api.Type{Kind: -7}}
	}
}

// rich is a schema with lists in lists, each with spare room.
func rich() api.Schema {
	s := of(
		with("s", api.Struct, with("l", api.List, with("t", api.Struct, plain("a", api.Int8), maybe(plain("b", api.Text)))), plain("c", api.Bool)),
		dict("d", 3, api.Int8, with("w", api.Struct, plain("x", api.Int8))),
		with("r", api.Runs, with("v", api.Struct, plain("y", api.Int8), plain("z", api.Bool))),
	)
	s.Fields = append(make([]api.Field, 0, 9), s.Fields...)
	s.Fields[0].Type.Fields = slices.Grow(s.Fields[0].Type.Fields, 5)
	s.Notes = append(make([]api.Note, 0, 4), api.Note{Key: "k", Text: "t"})
	return s
}

// P3.12: what Parts answers is new memory, and what it was handed stays.
func TestPartsMemory(t *testing.T) {
	for i := range rich().Fields {
		s := rich()
		l := Parts(s.Fields[i].Type)
		again := Parts(s.Fields[i].Type)
		spoil(l)
		if !reflect.DeepEqual(s, rich()) {
			t.Fatalf("field %d: writing into what Parts answered changed the type", i)
		}
		want := Parts(rich().Fields[i].Type)
		if !reflect.DeepEqual(again, want) {
			t.Fatalf("field %d: two answers share memory", i)
		}
		spoil(s.Fields)
		if !reflect.DeepEqual(again, want) {
			t.Fatalf("field %d: writing into the type changed what Parts answered", i)
		}
	}
}
