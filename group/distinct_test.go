package group

import (
	"strings"
	"testing"

	"colonnade/api"
	"colonnade/build"
	"colonnade/pick"
)

// P20.3: the first rows of the groups, with all their columns.
func TestDistinct(t *testing.T) {
	c := newChance(41)
	for range 4000 {
		s := c.schema(4)
		rows := c.rows(s, c.Intn(12))
		b := c.batch(t, s, rows)
		by := c.by(s)
		_, firsts := modelNumbers(rows, by)
		var l [][]api.Value
		for _, i := range firsts {
			l = append(l, rows[i])
		}
		want, e, _ := build.Batch(s, l)
		if e != api.OK {
			t.Fatal(e)
		}
		got, e := Distinct(s, b, by)
		if e != api.OK || !sameBatch(got, want) {
			t.Fatalf("by %v: %+v, %d, not %+v", by, got, e, want)
		}
		if taken, e := pick.TakeRows(s, b, firsts); e != api.OK || !sameBatch(got, taken) {
			t.Fatalf("by %v: %+v, not %+v, %d", by, got, taken, e)
		}
	}
}

// P20.5: a Distinct by all columns of a Distinct by all columns is the same.
func TestDistinctTwice(t *testing.T) {
	c := newChance(42)
	for range 2000 {
		s := c.schema(4)
		by := c.Perm(len(s.Fields))
		once, e := Distinct(s, c.batch(t, s, c.rows(s, c.Intn(12))), by)
		if e != api.OK {
			t.Fatal(e)
		}
		if twice, e := Distinct(s, once, by); e != api.OK || !sameBatch(twice, once) {
			t.Fatalf("%+v, %d, not %+v", twice, e, once)
		}
	}
}

// P20.3: by none, of none, of no columns.
func TestDistinctOfNothing(t *testing.T) {
	s, b := example(t)
	if c, e := Distinct(s, b, nil); e != api.OK || !sameBatch(c, batchOf(t, s, `"a"`, "1")) {
		t.Errorf("by none: %+v, %d", c, e)
	}
	empty := batchOf(t, s, "", "")
	for _, by := range [][]int{nil, {0}, {1, 0}} {
		if c, e := Distinct(s, empty, by); e != api.OK || !sameBatch(c, empty) {
			t.Errorf("of no rows by %v: %+v, %d", by, c, e)
		}
	}
	if c, e := Distinct(api.Schema{}, api.Batch{Rows: 5}, nil); e != api.OK || c.Rows != 1 || len(c.Columns) != 0 {
		t.Errorf("of no columns: %+v, %d", c, e)
	}
}

// P20.3: rows that can't be built are refused, also of a column by which isn't grouped.
func TestDistinctRefused(t *testing.T) {
	s := schemaOf(t, "i int16, c choice(x text)")
	b := api.Batch{Rows: api.MaxRows, Columns: []api.Data{rising(t, s.Fields[0], api.MaxRows), named(t, s.Fields[1], strings.Repeat("x", 17), api.MaxRows)}}
	if c, e := Distinct(s, b, []int{0}); e != api.ErrBytes || c.Rows+len(c.Columns) != 0 {
		t.Errorf("%d rows, %d", c.Rows, e)
	}
	if c, e := Distinct(s, b, []int{1}); e != api.OK || c.Rows != 1 {
		t.Errorf("%d rows, %d", c.Rows, e)
	}
}
