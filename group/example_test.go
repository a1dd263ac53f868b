package group

import (
	"slices"
	"testing"

	"colonnade/api"
)

// example is the schema and the batch of the chapter's examples.
func example(t testing.TB) (api.Schema, api.Batch) {
	s := schemaOf(t, "k text?, n int8")
	return s, batchOf(t, s, `"a" "b" null "a" null`, `1 2 3 4 5`)
}

// The chapter's first example.
func TestExamplesOfNumbers(t *testing.T) {
	s, b := example(t)
	for _, x := range []struct {
		by, of, firsts []int
		e              api.Errno
	}{
		{[]int{0}, []int{0, 1, 2, 0, 2}, []int{0, 1, 2}, api.OK},
		{[]int{0, 1}, []int{0, 1, 2, 3, 4}, []int{0, 1, 2, 3, 4}, api.OK},
		{nil, []int{0, 0, 0, 0, 0}, []int{0}, api.OK},
		{[]int{}, []int{0, 0, 0, 0, 0}, []int{0}, api.OK},
		{[]int{0, 0}, nil, nil, api.ErrArg},
		{[]int{2}, nil, nil, api.ErrRange},
		{[]int{0, 0, 2}, nil, nil, api.ErrArg},
		{[]int{0, 1, 2, 3, 4, 5, 6, 7, 8}, nil, nil, api.ErrArg},
	} {
		of, firsts, e := Numbers(s, b, x.by)
		if e != x.e || !slices.Equal(of, x.of) || !slices.Equal(firsts, x.firsts) {
			t.Errorf("by %v: %v, %v, %d", x.by, of, firsts, e)
		}
	}
}

// The chapter's second example.
func TestExamplesOfGroup(t *testing.T) {
	s, b := example(t)
	aggs := []api.Agg{{Op: api.AggSum, Column: 1, Name: "s"}, {Op: api.AggRows, Column: 0, Name: "r"}}
	out, c, e := Group(s, b, []int{0}, aggs)
	want := schemaOf(t, "k text?, s int64?, r int64")
	holdsGroup(t, "by 0", out, want, c, batchOf(t, want, `"a" "b" null`, "5 2 8", "2 1 2"), e, api.OK)

	out, c, e = Group(s, b, []int{0}, []api.Agg{aggs[0], {Op: api.AggRows, Column: 0, Name: "k"}})
	holdsGroup(t, "the name k", out, api.Schema{}, c, api.Batch{}, e, api.ErrType)

	want = schemaOf(t, "r int64")
	out, c, e = Group(s, b, nil, aggs[1:])
	holdsGroup(t, "by none", out, want, c, batchOf(t, want, "5"), e, api.OK)
	out, c, e = Group(s, batchOf(t, s, "", ""), nil, aggs[1:])
	holdsGroup(t, "no rows", out, want, c, batchOf(t, want, ""), e, api.OK)
}

// The chapter's third example.
func TestExampleOfDistinct(t *testing.T) {
	s, b := example(t)
	c, e := Distinct(s, b, []int{0})
	if e != api.OK || !sameBatch(c, batchOf(t, s, `"a" "b" null`, "1 2 3")) {
		t.Errorf("%+v, %d", c, e)
	}
}

// The chapter's fourth example.
func TestExamplesOfDict(t *testing.T) {
	s, b := example(t)
	f, d, e := Dict(s.Fields[0], b.Columns[0], 0, api.Uint8)
	if e != api.OK || !sameFields([]api.Field{f}, []api.Field{field(t, "k dict(0, uint8, values text)?")}) {
		t.Fatalf("%+v, %d", f, e)
	}
	if d.Nulls != 2 || !slices.Equal(d.Buffers[1], []byte{0, 1, 0, 0, 0}) || len(d.Dict) != 1 || textOf(t, field(t, "values text"), d.Dict[0]) != `"a" "b"` {
		t.Errorf("%+v", d)
	}
	if f, d, e := Dict(s.Fields[0], b.Columns[0], 32, api.Uint8); e != api.ErrType || f.Name != "" || d.Length != 0 {
		t.Errorf("ID 32: %+v, %+v, %d", f, d, e)
	}
	choice := field(t, "c choice(a int8, b text)")
	f, d, e = Dict(choice, formOf(t, choice, values(t, choice, `b("x") a(5) b("x")`)), 3, api.Int16)
	want := field(t, "c dict(3, int16, values choice(a int8, b text))")
	if e != api.OK || !sameFields([]api.Field{f}, []api.Field{want}) || textOf(t, want, d) != `b("x") a(5) b("x")` || d.Dict[0].Length != 2 {
		t.Errorf("%+v, %+v, %d", f, d, e)
	}
}
