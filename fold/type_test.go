package fold

import (
	"fmt"
	"reflect"
	"testing"

	"colonnade/api"
	"colonnade/kind"
)

// sameField holds an answer of Type against what it must be.
func sameField(t testing.TB, what string, f api.Field, e api.Errno, want api.Field, err api.Errno) {
	t.Helper()
	if e != err {
		t.Fatalf("%s: %d, not %d", what, e, err)
	}
	if e != api.OK && !reflect.DeepEqual(f, api.Field{}) {
		t.Fatalf("%s: a field beside the error %d", what, e)
	}
	if e == api.OK && (f.Name != want.Name || !kind.AlikeFields(f, want)) {
		t.Fatalf("%s: %v, not %v", what, f, want)
	}
}

// holdsType holds Type and New against the model.
func holdsType(t testing.TB, op int, f api.Field) api.Errno {
	t.Helper()
	want, err := modelType(op, f)
	got, e := Type(op, f)
	sameField(t, fmt.Sprint(op, f), got, e, want, err)
	x, e := New(op, f)
	if e != err || (x != nil) != (e == api.OK) {
		t.Fatalf("New(%d, %v): %v, %d, not %d", op, f, x, e, err)
	}
	return e
}

// samples are types of all kinds, with Dicts and Runs around and within them.
var samples = []string{"null?", "bool", "bool?", "int8", "int8?", "int16", "int32", "int64?", "uint8", "uint16", "uint32?", "uint64", "float64", "float64?", "text", "text?", "bytes", "bytes?",
	"fixed(1)", "fixed(2)?", "list(i int8)", "list(i int8?)?", "span(2, i int8)", "span(3, i int8)?", "struct()", "struct(x int8, y text)", "struct(x int8)?", "choice(x int8)", "choice(x int8, y text)",
	"dict(0, int8, w text)", "dict(1, uint64, v text)?", "dict(0, int8, w bool)?", "dict(0, int8, w float64)", "dict(0, int8, w uint16)?", "dict(0, int8, w int16)", "dict(0, int8, w list(i int8))?", "dict(3, int8, w choice(x int8))", "dict(4, int8, w choice(x int8))?",
	"runs(v int8)", "runs(v uint8?)?", "runs(v bool?)?", "runs(v runs(u float64?)?)?", "runs(v dict(0, int8, w text)?)?", "runs(v dict(0, int8, w int8))", "runs(v null?)?", "runs(v choice(x int8))",
	"list(i dict(0, int8, w text)?)", "list(i dict(0, int8, w choice(x int8)))", "list(i dict(0, int8, w choice(x int8))?)", "list(i runs(v dict(0, int8, w text)?)?)?", "struct(x dict(0, int8, w text), y runs(v list(i dict(1, int8, w bool)?)))",
	"list(i choice(x dict(0, int8, w int8)?, y runs(v null?)?))", "span(2, i runs(v choice(x int8)))?", "runs(v struct(x dict(0, int8, w choice(x int8))?))"}

// P18.1, P18.2: all operations of fields of all kinds are as the table says.
func TestTypesOfAllKinds(t *testing.T) {
	told := map[api.Errno]int{}
	for _, op := range append(operations(), noOps...) {
		for _, s := range samples {
			told[holdsType(t, op, field(t, "a "+s))]++
		}
	}
	for _, e := range []api.Errno{api.OK, api.ErrType, api.ErrArg} {
		if told[e] < 50 {
			t.Errorf("%d only %d times", e, told[e])
		}
	}
}

// P18.1: the bare field has no Dict and no Runs, at whatever depth; each field has the name and the Nullable of the one that stood there.
func TestBareFields(t *testing.T) {
	for from, to := range map[string]string{
		"a int8":                                                 "a int8?",
		"a dict(0, int8, w text)":                                "a text?",
		"a runs(v dict(7, int8, w text)?)?":                      "a text?",
		"a runs(v runs(u null?)?)?":                              "a null?",
		"a list(i dict(0, int8, w text)?)":                       "a list(i text?)?",
		"a list(i dict(0, int8, w text))?":                       "a list(i text)?",
		"a struct(x runs(v int8?)?, v runs(x int8))":             "a struct(x int8?, v int8)?",
		"a dict(0, int8, w struct(x list(i int8?), y fixed(3)))": "a struct(x list(i int8?), y fixed(3))?",
		"a span(4, i choice(x dict(0, int8, w span(5, j bool))?, y runs(v text)))": "a span(4, i choice(x span(5, j bool)?, y text))?",
		"a list(i dict(0, int8, w choice(x int8)))":                                "a list(i choice(x int8))?",
	} {
		f, want := field(t, from), field(t, to)
		for _, op := range []int{api.AggMin, api.AggMax, api.AggFirst, api.AggLast} {
			got, e := Type(op, f)
			sameField(t, from, got, e, want, api.OK)
		}
	}
	for _, s := range []string{"a choice(x int8)", "a dict(0, int8, w choice(x int8))", "a dict(0, int8, w choice(x int8))?", "a runs(v choice(x int8))", "a list(i dict(0, int8, w choice(x int8))?)", "a struct(x list(i dict(0, int8, w choice(x int8))?))?"} {
		for _, op := range operations() {
			_, e := Type(op, field(t, s))
			if want := map[bool]api.Errno{true: api.OK, false: api.ErrType}[op <= api.AggRows]; e != want {
				t.Errorf("operation %d of %s: %d", op, s, e)
			}
		}
	}
}

// P18.1: the name is the field's own, in all of them.
func TestNames(t *testing.T) {
	for _, op := range operations() {
		f := field(t, "some_Name9 runs(v dict(0, int8, w bool)?)?")
		if op == api.AggSum {
			f = field(t, "some_Name9 runs(v dict(0, int8, w int8)?)?")
		}
		if got, e := Type(op, f); e != api.OK || got.Name != "some_Name9" {
			t.Errorf("operation %d: %v, %d", op, got, e)
		}
	}
}

// P18.1: a field that may not be is told ahead of an operation that is none, and that ahead of a field that it doesn't take.
func TestFaultsOfType(t *testing.T) {
	bad := []api.Field{{}, {Name: "a"}, {Name: "9", Type: api.Type{Kind: api.Int8}}, {Name: "a", Nullable: true, Type: api.Type{Kind: api.Choice}}, {Name: "a", Type: api.Type{Kind: api.Null}},
		{Name: "a", Type: api.Type{Kind: api.Dict, Index: api.Int8, Fields: []api.Field{{Name: "w", Nullable: true, Type: api.Type{Kind: api.Int8}}}}}}
	for _, op := range append(operations(), noOps...) {
		for _, f := range bad {
			got, e := Type(op, f)
			sameField(t, "a field that may not be", got, e, api.Field{}, api.ErrType)
		}
	}
	for _, op := range noOps {
		got, e := Type(op, field(t, "a choice(x int8)"))
		sameField(t, "no operation", got, e, api.Field{}, api.ErrArg)
	}
}

// P18.1, P18.2: any fields, and any that are hurt.
func TestAnyTypes(t *testing.T) {
	c := newChance(1)
	told := map[api.Errno]int{}
	for range 20000 {
		f := c.field()
		if c.in(8) {
			c.hurt(&f)
		}
		op := api.AggCount + c.Intn(api.AggAll)
		if c.in(30) {
			op = c.of(noOps)
		}
		told[holdsType(t, op, f)]++
	}
	for _, e := range []api.Errno{api.OK, api.ErrType, api.ErrArg} {
		if told[e] < 300 {
			t.Errorf("%d only %d times", e, told[e])
		}
	}
}
