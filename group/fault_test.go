package group

import (
	"slices"
	"testing"

	"colonnade/api"
	"colonnade/build"
)

// refused holds all calls of a batch to be refused with an error, and to tell nothing else.
func refused(t testing.TB, what string, want api.Errno, s api.Schema, b api.Batch, by []int, aggs []api.Agg) {
	t.Helper()
	if of, firsts, e := Numbers(s, b, by); e != want || len(of)+len(firsts) != 0 {
		t.Errorf("Numbers, %s: %v, %v, %d, not %d", what, of, firsts, e, want)
	}
	out, c, e := Group(s, b, by, aggs)
	if e != want || len(out.Fields)+len(out.Notes)+c.Rows+len(c.Columns) != 0 {
		t.Errorf("Group, %s: %v, %v, %d, not %d", what, out, c, e, want)
	}
	if c, e := Distinct(s, b, by); e != want || c.Rows+len(c.Columns) != 0 {
		t.Errorf("Distinct, %s: %v, %d, not %d", what, c, e, want)
	}
}

// What is wrong with all that is handed in beside the schema and the batch.
var (
	noBy   = []int{-1}
	noAggs = []api.Agg{{Op: -1, Column: -1}}
)

// Schemas that may not be, ahead of all else.
func TestSchemas(t *testing.T) {
	s := schemaOf(t, "a int8, b int8")
	for what, s := range map[string]api.Schema{
		"a name twice":       {Fields: []api.Field{s.Fields[0], s.Fields[0]}},
		"no kind":            {Fields: []api.Field{{Name: "a"}}},
		"a field too many":   {Fields: make([]api.Field, 33)},
		"too many notes":     {Notes: make([]api.Note, 17)},
		"a Choice with null": {Fields: []api.Field{{Name: "c", Nullable: true, Type: api.Type{Kind: api.Choice, Fields: s.Fields}}}},
	} {
		refused(t, what, api.ErrType, s, api.Batch{Rows: -1}, noBy, noAggs)
		refused(t, what, api.ErrType, s, api.Batch{}, nil, nil)
	}
}

// A batch that build.Rows refuses, ahead of what it is grouped by; also where the column that is wrong is not asked for.
func TestBatches(t *testing.T) {
	s := schemaOf(t, "a int8, b text")
	hurt := func(change func(b *api.Batch)) api.Batch {
		b := batchOf(t, s, "2 1", `"x" "y"`)
		change(&b)
		return b
	}
	for want, l := range map[api.Errno][]api.Batch{
		api.ErrColumns: {hurt(func(b *api.Batch) { b.Rows = 3 }), hurt(func(b *api.Batch) { b.Rows = -1 }), hurt(func(b *api.Batch) { b.Columns = b.Columns[:1] }), hurt(func(b *api.Batch) { b.Columns[1].Length = 1 }), hurt(func(b *api.Batch) { b.Columns = append(b.Columns, b.Columns[0]) })},
		api.ErrUtf:     {hurt(func(b *api.Batch) { b.Columns[1].Buffers[2][0] = 0xff })},
		api.ErrShape:   {hurt(func(b *api.Batch) { b.Columns[0].Buffers = nil }), hurt(func(b *api.Batch) { b.Columns[0], b.Columns[1] = b.Columns[1], b.Columns[0] })},
		api.ErrLength:  {hurt(func(b *api.Batch) { b.Columns[0].Nulls = 1; b.Columns[1].Buffers = nil })},
		api.ErrRows:    {hurt(func(b *api.Batch) { b.Columns[1].Offset = api.MaxRows })},
	} {
		for _, b := range l {
			if _, e := build.Rows(s, b); e != want {
				t.Fatalf("build.Rows: %d, not %d", e, want)
			}
			for _, by := range [][]int{nil, {0}, {1, 0}, noBy, make([]int, 9)} {
				refused(t, "a batch that may not be", want, s, b, by, nil)
				refused(t, "a batch that may not be", want, s, b, by, noAggs)
			}
		}
	}
}

// Columns that are too heavy together are no fault here.
func TestHeavyTogether(t *testing.T) {
	s := schemaOf(t, "a dict(0, int8, w text), b dict(1, int8, w text), n int16")
	text := string(slices.Repeat([]byte("x"), 600))
	l, numbers := make([]api.Value, api.MaxRows), make([]api.Value, api.MaxRows)
	for i := range l {
		l[i].Text, numbers[i].Num = text, int64(i)
	}
	b := api.Batch{Rows: len(l), Columns: []api.Data{formOf(t, s.Fields[0], l), formOf(t, s.Fields[1], l), formOf(t, s.Fields[2], numbers)}}
	if _, e := build.Rows(s, b); e != api.ErrRows {
		t.Fatalf("build.Rows: %d", e)
	}
	holdsNumbers(t, "too heavy together", s, b, []int{0, 1}, make([]int, api.MaxRows), []int{0})
	if c, e := Distinct(s, b, []int{2, 1, 0}); e != api.OK || !sameBatch(c, b) {
		t.Errorf("Distinct: %d rows, %d", c.Rows, e)
	}
	out, c, e := Group(s, b, []int{0, 1, 2}, []api.Agg{{Op: api.AggCount, Column: 1, Name: "c"}})
	if e != api.OK || !sameFields(out.Fields[:3], s.Fields) || !sameBatch(api.Batch{Rows: c.Rows, Columns: c.Columns[:3]}, b) {
		t.Errorf("Group: %d rows, %d", c.Rows, e)
	}
}

// R1: whatever is handed in, each call answers, and with just the error that comes first.
func TestAnything(t *testing.T) {
	c := newChance(21)
	told := map[api.Errno]int{}
	for range 8000 {
		s := c.schema(3)
		rows := c.rows(s, c.Intn(5))
		b := c.batch(t, s, rows)
		by, aggs := c.by(s), c.aggs(s, 2)
		for c.in(3) {
			by = append(by, c.Intn(5)-1)
		}
		for c.in(3) {
			aggs = append(aggs, api.Agg{Op: c.Intn(12) - 1, Column: c.Intn(5) - 1, Name: []string{"x", "a", "agg_a", ""}[c.Intn(4)]})
		}
		if n := len(s.Fields); n > 0 && c.in(4) {
			c.hurt(&s.Fields[c.Intn(n)])
		}
		if n := len(b.Columns); n > 0 && c.in(4) {
			c.hurtArray(&b.Columns[c.Intn(n)])
		}
		if c.in(9) {
			b.Rows += c.Intn(3) - 1
		}
		rows, want := build.Rows(s, b)
		if want == api.OK {
			want = modelBy(s, by)
		}
		told[want]++
		if want != api.OK {
			refused(t, "anything", want, s, b, by, aggs)
			continue
		}
		of, firsts := modelNumbers(rows, by)
		holdsNumbers(t, "anything", s, b, by, of, firsts)
		wantS, wantB, err := modelGroup(t, s, b, rows, by, aggs)
		out, g, e := Group(s, b, by, aggs)
		holdsGroup(t, "anything", out, wantS, g, wantB, e, err)
		told[err]++
	}
	if told[api.OK] < 2000 || told[api.ErrRange] < 500 || told[api.ErrArg] < 200 || told[api.ErrType] < 500 || len(told) < 8 {
		t.Errorf("too few of each: %v", told)
	}
}

// R1: each call ends, also of types and arrays that stand in themselves.
func TestEnds(t *testing.T) {
	ring := make([]api.Field, 1)
	ring[0] = api.Field{Name: "i", Type: api.Type{Kind: api.List, Fields: ring}}
	data := make([]api.Data, 1)
	data[0] = api.Data{Length: 1, Buffers: [][]byte{nil, {0, 0, 0, 0, 1, 0, 0, 0}}, Children: data}
	b := api.Batch{Rows: 1, Columns: data}
	refused(t, "a type in itself", api.ErrType, api.Schema{Fields: ring}, b, []int{0}, nil)
	if f, d, e := Dict(ring[0], data[0], 0, api.Int8); e != api.ErrType || f.Name != "" || d.Length != 0 {
		t.Errorf("Dict of a type in itself: %d", e)
	}
	s := schemaOf(t, "a list(i list(j list(k int8)))")
	for _, by := range [][]int{nil, {0}} {
		if _, _, e := Numbers(s, b, by); e == api.OK {
			t.Error("an array that stands in itself is let by")
		}
	}
	if _, _, e := Dict(s.Fields[0], data[0], 0, api.Int8); e == api.OK {
		t.Error("an array that stands in itself is let by")
	}
}
