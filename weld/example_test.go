package weld

import (
	"strings"
	"testing"

	"colonnade/api"
	"colonnade/build"
)

// The chapter's examples of Arrays, and example 5 of the whole.
func TestExampleArrays(t *testing.T) {
	f := field(t, "int8")
	d, e := Arrays(f, []api.Data{data(t, f, "1", "2"), data(t, f), data(t, f, "3")})
	holds(t, "int8", d, e, api.Data{Length: 3, Buffers: [][]byte{nil, {1, 2, 3}}}, api.OK)

	d, e = Arrays(f, nil)
	holds(t, "int8, none", d, e, api.Data{Buffers: [][]byte{nil, nil}}, api.OK)

	many := formOf(t, f, make([]api.Value, 3000))
	d, e = Arrays(f, []api.Data{many, many})
	holds(t, "6000 rows", d, e, api.Data{}, api.ErrRows)

	f = field(t, "text")
	long := formOf(t, f, []api.Value{{Text: strings.Repeat("x", 40000)}})
	d, e = Arrays(f, []api.Data{long, long})
	holds(t, "80000 bytes", d, e, api.Data{}, api.ErrBytes)

	f = field(t, "runs(v bool)")
	d, e = Arrays(f, []api.Data{data(t, f, "true", "true"), data(t, f, "true")})
	ends := api.Data{Length: 1, Buffers: [][]byte{nil, {3, 0, 0, 0}}}
	holds(t, "runs", d, e, api.Data{Length: 3, Children: []api.Data{ends, {Length: 1, Buffers: [][]byte{nil, {1}}}}}, api.OK)
}

func TestExampleDict(t *testing.T) {
	f, w := field(t, "dict(0, int8, w text)"), field(t, "text")
	d, e := Arrays(f, []api.Data{data(t, f, `"a"`, `"b"`), data(t, f, `"b"`, `"c"`)})
	want := api.Data{Length: 4, Buffers: [][]byte{nil, {0, 1, 1, 2}}, Dict: []api.Data{data(t, w, `"a"`, `"b"`, `"c"`)}}
	holds(t, "dictionaries", d, e, want, api.OK)

	d, e = Arrays(f, []api.Data{data(t, f, `"a"`), data(t, f, `"b"`, `"a"`)})
	want = api.Data{Length: 3, Buffers: [][]byte{nil, {0, 1, 0}}, Dict: []api.Data{data(t, w, `"a"`, `"b"`)}}
	holds(t, "dictionaries", d, e, want, api.OK)
}

// The chapter's examples of Batches and Beside.
func TestExampleBatches(t *testing.T) {
	s := schema(t, "a int8")
	b, e := Batches(s, []api.Batch{ints(1), ints(2)})
	holdsBatch(t, "Batches", b, e, ints(1, 2), api.OK)

	text := schema(t, "b text")
	x := data(t, text.Fields[0], `"x"`)
	both, b, e := Beside(s, ints(1), text, batchOf(x))
	holdsBatch(t, "Beside", b, e, batchOf(ints(1).Columns[0], x), api.OK)
	if !sameSchema(both, schema(t, "a int8, b text")) {
		t.Errorf("Beside: %v", both)
	}
	both, b, e = Beside(s, ints(1), schema(t, "a text"), batchOf(x))
	holdsBatch(t, "Beside, a twice", b, e, api.Batch{}, api.ErrTwice)
	if both.Fields != nil || both.Notes != nil {
		t.Errorf("a schema beside an error: %v", both)
	}
	_, b, e = Beside(s, ints(1), schema(t, "b int8"), ints(1, 2))
	holdsBatch(t, "Beside, unlike rows", b, e, api.Batch{}, api.ErrUnlike)
}

// The chapter's examples of Cut and Even.
func TestExampleCut(t *testing.T) {
	s := schema(t, "a int8")
	l, e := Cut(s, ints(1, 2, 3), 2)
	holdsBatches(t, "Cut", l, e, []api.Batch{ints(1, 2), ints(3)}, api.OK)
	l, e = Cut(s, ints(make([]byte, 300)...), 1)
	holdsBatches(t, "Cut of 300 rows", l, e, nil, api.ErrRange)

	table := api.Table{Schema: s, Batches: []api.Batch{ints(1), ints(2, 3), ints(), ints(4)}}
	x, e := Even(table, 3)
	holdsTable(t, "Even", x, e, api.Table{Schema: s, Batches: []api.Batch{ints(1, 2, 3), ints(4)}}, api.OK)
	for _, n := range []int{0, 4097} {
		x, e = Even(table, n)
		holdsTable(t, "Even", x, e, api.Table{}, api.ErrArg)
	}
}

// What is cut and welded again is what it was: each piece has a dictionary of its own, the whole one for all.
func TestExampleThereAndBack(t *testing.T) {
	s := schema(t, "a int8?, d dict(0, uint8, w text)?")
	b, e, _ := build.Batch(s, [][]api.Value{
		{{Num: 1}, {Text: "b"}}, {{Null: true}, {Null: true}}, {{Num: 3}, {Text: "a"}}, {{Num: 4}, {Text: "b"}},
	})
	if e != api.OK {
		t.Fatalf("Batch: %d", e)
	}
	l, e := Cut(s, b, 3)
	if e != api.OK || len(l) != 2 || l[1].Columns[1].Dict[0].Length != 1 {
		t.Fatalf("Cut: %v, %d", l, e)
	}
	again, e := Batches(s, l)
	holdsBatch(t, "Batches of Cut", again, e, b, api.OK)
}
