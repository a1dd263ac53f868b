package group

import (
	"math"
	"slices"
	"testing"

	"colonnade/api"
)

// holdsNumbers holds what Numbers answers against what it must be.
func holdsNumbers(t testing.TB, what string, s api.Schema, b api.Batch, by, wantOf, wantFirsts []int) {
	t.Helper()
	of, firsts, e := Numbers(s, b, by)
	if e != api.OK || !slices.Equal(of, wantOf) || !slices.Equal(firsts, wantFirsts) {
		t.Fatalf("%s by %v: %v, %v, %d, not %v, %v", what, by, of, firsts, e, wantOf, wantFirsts)
	}
}

// P20.1: rows of any schema, lying anyhow, are numbered as the chapter says.
func TestNumbers(t *testing.T) {
	c := newChance(11)
	several := 0
	for range 6000 {
		s := c.schema(4)
		rows := c.rows(s, c.Intn(12))
		by := c.by(s)
		of, firsts := modelNumbers(rows, by)
		holdsNumbers(t, "rows", s, c.batch(t, s, rows), by, of, firsts)
		if len(firsts) > 1 && len(firsts) < len(rows) {
			several++
		}
	}
	if several < 2000 {
		t.Errorf("only %d with groups of several rows", several)
	}
}

// P20.1: what is the same, and what isn't.
func TestAlike(t *testing.T) {
	for _, x := range []struct {
		schema  string
		columns []string
		of      []int
	}{
		{"a int8?", []string{"null 0 null 0"}, []int{0, 1, 0, 1}},
		{"a text?", []string{`null "" "null" null ""`}, []int{0, 1, 2, 0, 1}},
		{"a null?", []string{"null null"}, []int{0, 0}},
		{"a bool?", []string{"false null true false"}, []int{0, 1, 2, 0}},
		{"a float64", []string{"0p0 -0p0 nan8000000000000 -nan8000000000000 nan8000000000001 inf -inf nan8000000000000 0p0 -0p0"}, []int{0, 1, 2, 3, 4, 5, 6, 2, 0, 1}},
		{"a uint64, b int8", []string{"18446744073709551615 0 18446744073709551615", "-1 0 -1"}, []int{0, 1, 0}},
		{"a text, b text", []string{`"a" "ab" "" "abc" "ab" "a"`, `"bc" "c" "abc" "" "c" "c"`}, []int{0, 1, 2, 3, 1, 4}},
		{"a text?, b text?", []string{`null "" null "" null`, `"" null null "" ""`}, []int{0, 1, 2, 3, 0}},
		{"a int8, b int8", []string{"1 2 1 2", "2 1 2 2"}, []int{0, 1, 0, 2}},
		{"a list(i list(j int8))", []string{"[[1],[2]] [[1,2]] [[],[1,2]] [[1,2],[]] [] [[]] [[1],[2]]"}, []int{0, 1, 2, 3, 4, 5, 0}},
		{"a list(i int8?)?", []string{"[null] null [] [null,null] [null] null [0]"}, []int{0, 1, 2, 3, 0, 1, 4}},
		{"a list(i text), b list(i text)", []string{`["a"] ["a","b"] [] ["a"]`, `["b"] [] ["a","b"] ["b"]`}, []int{0, 1, 2, 0}},
		{"a struct(x int8, y int8)", []string{"{x:1,y:2} {x:2,y:1} {x:1,y:2}"}, []int{0, 1, 0}},
		{"a struct()?", []string{"{} null {}"}, []int{0, 1, 0}},
		{"a choice(x int8, y int8, z int8?)", []string{"x(1) y(1) x(1) z(null) z(0) y(0) z(null)"}, []int{0, 1, 0, 2, 3, 4, 2}},
		{"a fixed(2), b bytes", []string{`x"0000" x"0000" x"0001"`, `x"" x"00" x""`}, []int{0, 1, 2}},
		{"a dict(0, int8, w text)?", []string{`"b" null "a" "b" null`}, []int{0, 1, 2, 0, 1}},
		{"a runs(v int8?)?", []string{"1 1 null null 1 2"}, []int{0, 0, 1, 1, 0, 2}},
	} {
		s := schemaOf(t, x.schema)
		b := batchOf(t, s, x.columns...)
		var by, firsts []int
		for k := range s.Fields {
			by = append(by, k)
		}
		for n := range slices.Max(x.of) + 1 {
			firsts = append(firsts, slices.Index(x.of, n))
		}
		holdsNumbers(t, x.schema, s, b, by, x.of, firsts)
		slices.Reverse(by)
		holdsNumbers(t, x.schema, s, b, by, x.of, firsts)
	}
}

// P20.1: a dictionary that has a value twice, and runs that could be one.
func TestAlikeWhereTheyLie(t *testing.T) {
	words, ints := field(t, "w text"), field(t, "n int32")
	s := schemaOf(t, "a dict(0, uint8, w text)?, b runs(v text)")
	d := formOf(t, words, values(t, words, `"x" "y" "x"`))
	a := api.Data{Length: 4, Offset: 1, Nulls: 1, Buffers: [][]byte{{0b10110}, {9, 2, 1, 7, 0}}, Dict: []api.Data{d}}
	runs := api.Data{Length: 4, Offset: 1, Children: []api.Data{formOf(t, ints, values(t, ints, "2 4 5")), d}}
	b := api.Batch{Rows: 4, Columns: []api.Data{a, runs}}
	holdsNumbers(t, "a dictionary", s, b, []int{0}, []int{0, 1, 2, 0}, []int{0, 1, 2})
	holdsNumbers(t, "runs", s, b, []int{1}, []int{0, 1, 1, 0}, []int{0, 1})
	holdsNumbers(t, "both", s, b, []int{1, 0}, []int{0, 1, 2, 0}, []int{0, 1, 2})
}

// P20.1: no rows, no columns, as many as may be.
func TestNumbersLimits(t *testing.T) {
	s := schemaOf(t, "a int16, b int8, c int8, d int8, e int8, f int8, g int8, h int8, i int8")
	holdsNumbers(t, "no rows", s, batchOf(t, s, "", "", "", "", "", "", "", "", ""), []int{1, 0}, nil, nil)
	holdsNumbers(t, "no rows", s, batchOf(t, s, "", "", "", "", "", "", "", "", ""), nil, nil, nil)
	holdsNumbers(t, "no columns", api.Schema{}, api.Batch{Rows: 3}, nil, []int{0, 0, 0}, []int{0})
	holdsNumbers(t, "nothing", api.Schema{}, api.Batch{}, nil, nil, nil)
	holdsNumbers(t, "many rows", api.Schema{}, api.Batch{Rows: api.MaxRows}, nil, make([]int, api.MaxRows), []int{0})

	b := api.Batch{Rows: api.MaxRows}
	numbers := make([]int, api.MaxRows)
	l := make([]api.Value, api.MaxRows)
	for i := range l {
		l[i].Num, numbers[i] = int64(i), i
	}
	b.Columns = append(b.Columns, formOf(t, s.Fields[0], l))
	for _, f := range s.Fields[1:] {
		b.Columns = append(b.Columns, formOf(t, f, make([]api.Value, api.MaxRows)))
	}
	holdsNumbers(t, "eight columns", s, b, []int{8, 7, 6, 5, 0, 4, 3, 2}, numbers, numbers)
	holdsNumbers(t, "eight columns", s, b, []int{8, 7, 6, 5, 4, 3, 2, 1}, make([]int, api.MaxRows), []int{0})
}

// By, everywhere: what is wrong with it, the first thing first.
func TestBy(t *testing.T) {
	s := schemaOf(t, "a int8, b int8, c int8, d int8, e int8, f int8, g int8, h int8, i int8")
	b := batchOf(t, s, "1", "1", "1", "1", "1", "1", "1", "1", "1")
	for _, x := range []struct {
		by   []int
		want api.Errno
	}{
		{[]int{0, 1, 2, 3, 4, 5, 6, 7, 8}, api.ErrArg},
		{[]int{9, 9, 9, 9, 9, 9, 9, 9, 9}, api.ErrArg},
		{make([]int, 5000), api.ErrArg},
		{[]int{9}, api.ErrRange}, {[]int{-1}, api.ErrRange}, {[]int{math.MaxInt}, api.ErrRange}, {[]int{math.MinInt}, api.ErrRange},
		{[]int{9, 9}, api.ErrRange}, {[]int{3, 9, 3}, api.ErrRange}, {[]int{8, -1, 8}, api.ErrRange},
		{[]int{3, 3}, api.ErrArg}, {[]int{3, 3, 9}, api.ErrArg}, {[]int{3, 1, 3, -1}, api.ErrArg}, {[]int{0, 1, 2, 3, 4, 5, 6, 0}, api.ErrArg},
	} {
		if got := modelBy(s, x.by); got != x.want {
			t.Errorf("the model, by %v: %d", x.by, got)
		}
		refused(t, "by", x.want, s, b, x.by, nil)
		// What is wrong with aggregates comes behind.
		out, c, e := Group(s, b, x.by, make([]api.Agg, 17))
		holdsGroup(t, "by", out, api.Schema{}, c, api.Batch{}, e, x.want)
		out, c, e = Group(s, b, x.by, []api.Agg{{Op: 0, Column: 99}})
		holdsGroup(t, "by", out, api.Schema{}, c, api.Batch{}, e, x.want)
	}
	refused(t, "a column where there is none", api.ErrRange, api.Schema{}, api.Batch{Rows: 2}, []int{0}, nil)
}

// P20.5: what follows.
func TestWhatFollows(t *testing.T) {
	c := newChance(12)
	for range 1500 {
		s := c.schema(4)
		rows := c.rows(s, c.Intn(14))
		b := c.batch(t, s, rows)
		by := c.by(s)
		of, firsts, e := Numbers(s, b, by)
		if e != api.OK || len(of) != b.Rows {
			t.Fatalf("%v, %d", of, e)
		}
		for i := range of {
			for j := range i {
				same := true
				for _, k := range by {
					same = same && modelSame(rows[i][k], rows[j][k])
				}
				if same != (of[i] == of[j]) {
					t.Fatalf("rows %d and %d by %v: %v", i, j, by, of)
				}
			}
		}
		next := 0
		for i, n := range of {
			if next < len(firsts) && firsts[next] == i {
				if n != next {
					t.Fatalf("first row %d has the number %d: %v", i, n, of)
				}
				next++
			} else if n >= next {
				t.Fatalf("row %d is ahead of its group's first one: %v, %v", i, of, firsts)
			}
		}
		if next != len(firsts) {
			t.Fatalf("firsts don't rise: %v", firsts)
		}
		if len(s.Fields) == 0 {
			continue
		}
		out, g, e := Group(s, b, by, []api.Agg{{Op: api.AggRows, Column: 0, Name: "how_many"}})
		if e != api.OK {
			t.Fatal(e)
		}
		counted, all := make([]int64, len(firsts)), int64(0)
		for _, n := range of {
			counted[n]++
		}
		for n, v := range valuesIn(t, out.Fields[len(by)], g.Columns[len(by)]) {
			all += v.Num
			if v.Num != counted[n] {
				t.Fatalf("group %d has %d rows, not %d", n, v.Num, counted[n])
			}
		}
		if all != int64(b.Rows) {
			t.Fatalf("%d rows, not %d", all, b.Rows)
		}
	}
}

// P20.5: what comes out is the same for batches that denote the same.
func TestLies(t *testing.T) {
	c := newChance(13)
	for range 1500 {
		s := c.schema(3)
		rows := c.rows(s, c.Intn(9))
		by, aggs := c.by(s), c.aggs(s, 3)
		x, y := c.batch(t, s, rows), c.batch(t, s, rows)
		of, firsts, _ := Numbers(s, x, by)
		holdsNumbers(t, "again", s, y, by, of, firsts)
		out, g, e := Group(s, x, by, aggs)
		out2, h, e2 := Group(s, y, by, aggs)
		holdsGroup(t, "again", out2, out, h, g, e2, e)
		d, e := Distinct(s, x, by)
		if d2, e2 := Distinct(s, y, by); e2 != e || !sameBatch(d2, d) {
			t.Fatalf("Distinct: %+v, %d, not %+v, %d", d2, e2, d, e)
		}
		for k, f := range s.Fields {
			f1, d1, e := Dict(f, x.Columns[k], 31, api.Int64)
			f2, d2, e2 := Dict(f, y.Columns[k], 31, api.Int64)
			if e2 != e || !sameFields([]api.Field{f2}, []api.Field{f1}) || lies(d2) != lies(d1) {
				t.Fatalf("Dict: %+v, %d, not %+v, %d", d2, e2, d1, e)
			}
		}
	}
}
