package group

import (
	"fmt"
	"math"
	"slices"
	"strings"
	"testing"

	"colonnade/api"
	"colonnade/build"
)

// P20.2: any batch, by any columns, with any aggregates.
func TestGroup(t *testing.T) {
	c := newChance(31)
	told := map[api.Errno]int{}
	for range 5000 {
		s := c.schema(4)
		rows := c.rows(s, c.Intn(12))
		b := c.batch(t, s, rows)
		by, aggs := c.by(s), c.aggs(s, 6)
		wantS, wantB, err := modelGroup(t, s, b, rows, by, aggs)
		out, g, e := Group(s, b, by, aggs)
		holdsGroup(t, "any", out, wantS, g, wantB, e, err)
		for k, d := range g.Columns {
			if !build.IsForm(out.Fields[k], d) {
				t.Fatalf("column %d is not in build form: %+v", k, d)
			}
		}
		told[e]++
	}
	if told[api.OK] < 3000 || told[api.ErrOverflow] < 20 {
		t.Errorf("too few of each: %v", told)
	}
}

// P20.2: each operation, of groups of several rows in their order.
func TestOperations(t *testing.T) {
	s := schemaOf(t, `k int8, n int8?, w dict(0, uint8, t text)?, on runs(v bool?)?, x float64 | "a" "note"`)
	b := batchOf(t, s, "7 -1 7 7 -1", "3 null 5 null null", `"b" "q" "a" null null`, "true false null true null", "1p0 -0p0 inf 1p-60 -0p0")
	var aggs []api.Agg
	for _, agg := range []string{"n Count", "w Rows", "n Sum", "w Min", "w Max", "w First", "n Last", "on Any", "on All", "x Sum", "k Sum"} {
		column, op, _ := strings.Cut(agg, " ")
		name := column + "_" + strings.ToLower(op)
		number := slices.Index([]string{"None", "Count", "Rows", "Sum", "Min", "Max", "First", "Last", "Any", "All"}, op)
		aggs = append(aggs, api.Agg{Op: number, Column: slices.Index([]string{"k", "n", "w", "on", "x"}, column), Name: name})
	}
	out, c, e := Group(s, b, []int{0}, aggs)
	want := schemaOf(t, "k int8, n_count int64, w_rows int64, n_sum int64?, w_min text?, w_max text?, w_first text?, n_last int8?, on_any bool?, on_all bool?, x_sum float64?, k_sum int64?")
	holdsGroup(t, "all operations", out, want, c, batchOf(t, want, "7 -1", "2 0", "3 2", "8 null", `"a" "q"`, `"b" "q"`, `"b" "q"`, "null null", "true null", "null false", "inf -0p0", "21 -2"), e, api.OK)
}

// P20.2: the columns by which is grouped come as they are named, with their whole fields, and no notes.
func TestFieldsOfBy(t *testing.T) {
	s := schemaOf(t, `a runs(v int8?)?, b dict(3, int16, w list(i text?))?, c choice(x int8, y text) | "a" "note"`)
	b := batchOf(t, s, "1 1 null 1", `["p"] null ["p"] ["p"]`, `x(1) x(1) y("z") x(1)`)
	out, c, e := Group(s, b, []int{2, 0, 1}, nil)
	want := api.Schema{Fields: []api.Field{s.Fields[2], s.Fields[0], s.Fields[1]}}
	holdsGroup(t, "by all", out, want, c, batchOf(t, want, `x(1) x(1) y("z")`, "1 1 null", `["p"] null ["p"]`), e, api.OK)
}

// P20.2: nothing to group by, nothing to fold, no rows.
func TestGroupOfNothing(t *testing.T) {
	s, b := example(t)
	out, c, e := Group(s, b, nil, nil)
	holdsGroup(t, "neither by nor aggregates", out, api.Schema{}, c, api.Batch{Rows: 1}, e, api.OK)
	empty := batchOf(t, s, "", "")
	out, c, e = Group(s, empty, nil, nil)
	holdsGroup(t, "no rows", out, api.Schema{}, c, api.Batch{}, e, api.OK)
	out, c, e = Group(api.Schema{}, api.Batch{Rows: 9}, nil, nil)
	holdsGroup(t, "no columns", out, api.Schema{}, c, api.Batch{Rows: 1}, e, api.OK)
	want := schemaOf(t, "n int8, f text?, all int64?")
	out, c, e = Group(s, empty, []int{1}, []api.Agg{{Op: api.AggFirst, Column: 0, Name: "f"}, {Op: api.AggSum, Column: 1, Name: "all"}})
	holdsGroup(t, "no rows", out, want, c, batchOf(t, want, "", "", ""), e, api.OK)
}

// P20.2: what is wrong with aggregates, the first thing first.
func TestAggs(t *testing.T) {
	s := schemaOf(t, "k int8, t text, c choice(x int8), o bool")
	b := batchOf(t, s, "1 1", `"x" "y"`, "x(1) x(2)", "true false")
	none, noOp, noColumn := api.Agg{Op: api.AggSum, Column: 1, Name: "none"}, api.Agg{Op: 0, Column: 0, Name: "no_op"}, api.Agg{Op: api.AggRows, Column: 4, Name: "no_column"}
	right, twice, nameless := api.Agg{Op: api.AggRows, Column: 0, Name: "r"}, api.Agg{Op: api.AggRows, Column: 1, Name: "k"}, api.Agg{Op: api.AggRows, Column: 1}
	for i, x := range []struct {
		aggs []api.Agg
		want api.Errno
	}{
		{[]api.Agg{none}, api.ErrType}, {[]api.Agg{noOp}, api.ErrArg}, {[]api.Agg{noColumn}, api.ErrRange},
		{[]api.Agg{{Op: api.AggAll + 1, Column: 0, Name: "a"}}, api.ErrArg}, {[]api.Agg{{Op: math.MinInt, Column: 2, Name: "a"}}, api.ErrArg},
		{[]api.Agg{{Op: api.AggRows, Column: -1, Name: "a"}}, api.ErrRange}, {[]api.Agg{{Op: api.AggRows, Column: math.MaxInt, Name: "a"}}, api.ErrRange}, {[]api.Agg{{Op: 0, Column: math.MinInt, Name: "a"}}, api.ErrRange},
		{[]api.Agg{{Op: api.AggMin, Column: 2, Name: "a"}}, api.ErrType}, {[]api.Agg{{Op: api.AggAny, Column: 0, Name: "a"}}, api.ErrType}, {[]api.Agg{{Op: api.AggSum, Column: 3, Name: "a"}}, api.ErrType},
		{[]api.Agg{right, noOp, none, noColumn}, api.ErrArg}, {[]api.Agg{none, noOp, noColumn}, api.ErrType}, {[]api.Agg{noColumn, noOp, none}, api.ErrRange},
		{[]api.Agg{twice, noColumn}, api.ErrRange}, {[]api.Agg{nameless, noOp}, api.ErrArg}, {[]api.Agg{right, right, noColumn}, api.ErrRange},
		{[]api.Agg{twice}, api.ErrType}, {[]api.Agg{nameless}, api.ErrType}, {[]api.Agg{right, right}, api.ErrType}, {[]api.Agg{{Op: api.AggRows, Column: 0, Name: "9x"}}, api.ErrType},
		{[]api.Agg{{Op: api.AggRows, Column: 0, Name: strings.Repeat("x", 49)}}, api.ErrType},
		{slices.Repeat([]api.Agg{noColumn}, 17), api.ErrArg}, {make([]api.Agg, 3000), api.ErrArg}, {slices.Repeat([]api.Agg{noColumn}, 16), api.ErrRange},
	} {
		out, c, e := Group(s, b, []int{0}, x.aggs)
		holdsGroup(t, fmt.Sprintf("line %d", i), out, api.Schema{}, c, api.Batch{}, e, x.want)
		out, c, e = Group(s, batchOf(t, s, "", "", "", ""), []int{0}, x.aggs)
		holdsGroup(t, fmt.Sprintf("line %d, no rows", i), out, api.Schema{}, c, api.Batch{}, e, x.want)
	}
	// By another column the name k is free.
	out, c, e := Group(s, b, []int{3}, []api.Agg{twice, {Op: api.AggFirst, Column: 3, Name: "t"}, {Op: api.AggLast, Column: 0, Name: strings.Repeat("x", 48)}})
	want := schemaOf(t, "o bool, k int64, t bool?, "+strings.Repeat("x", 48)+" int8?")
	holdsGroup(t, "names of others", out, want, c, batchOf(t, want, "true false", "1 1", "true false", "1 1"), e, api.OK)
}

// P20.2: as many aggregates and columns as may be; a schema with more fields in all than may be.
func TestGroupLimits(t *testing.T) {
	s := schemaOf(t, "a int8, b int8, c int8, d int8, e int8, f int8, g int8, h int8, deep struct("+many(16, "s%d struct(a int8)")+")")
	columns := slices.Repeat([]string{"1 2 1"}, 9)
	value := "{" + many(16, "s%d:{a:1}") + "}"
	columns[8] = strings.Join([]string{value, value, value}, " ")
	b := batchOf(t, s, strings.Split(strings.ReplaceAll(strings.Join(columns, ";"), ", ", ","), ";")...)
	by := []int{0, 1, 2, 3, 4, 5, 6, 7}
	var aggs []api.Agg
	for i := range 16 {
		aggs = append(aggs, api.Agg{Op: api.AggSum, Column: i % 8, Name: fmt.Sprintf("sum%d", i)})
	}
	want := schemaOf(t, "a int8, b int8, c int8, d int8, e int8, f int8, g int8, h int8, "+many(16, "sum%d int64?"))
	out, c, e := Group(s, b, by, aggs)
	holdsGroup(t, "24 columns", out, want, c, batchOf(t, want, append(slices.Repeat([]string{"1 2"}, 8), slices.Repeat([]string{"2 2"}, 16)...)...), e, api.OK)

	// Each deep aggregate has 33 fields in all.
	for i := range aggs {
		aggs[i].Op, aggs[i].Column = api.AggFirst, 8
	}
	if out, c, e := Group(s, b, nil, aggs[:7]); e != api.OK || len(out.Fields) != 7 || c.Rows != 1 || len(c.Columns) != 7 {
		t.Errorf("231 fields in all: %d", e)
	}
	out, c, e = Group(s, b, nil, aggs[:8])
	holdsGroup(t, "264 fields in all", out, api.Schema{}, c, api.Batch{}, e, api.ErrType)
}

// many is a text n times, with the numbers from 0 on, a comma and a blank between each two.
func many(n int, text string) string {
	var l []string
	for i := range n {
		l = append(l, fmt.Sprintf(text, i))
	}
	return strings.Join(l, ", ")
}

// P20.2: the sum of a group that is no number of its field.
func TestOverflow(t *testing.T) {
	s := schemaOf(t, "k int8, n int64, u dict(0, uint8, v uint64)")
	b := batchOf(t, s, "1 2 1 2 1", "9223372036854775807 9223372036854775807 -1 -9223372036854775808 1", "18446744073709551615 18446744073709551615 0 0 0")
	sum, unsigned := api.Agg{Op: api.AggSum, Column: 1, Name: "s"}, api.Agg{Op: api.AggSum, Column: 2, Name: "u"}
	out, c, e := Group(s, b, []int{0}, []api.Agg{sum, unsigned})
	want := schemaOf(t, "k int8, s int64?, u uint64?")
	holdsGroup(t, "just no overflow", out, want, c, batchOf(t, want, "1 2", "9223372036854775807 -1", "18446744073709551615 18446744073709551615"), e, api.OK)
	for _, aggs := range [][]api.Agg{{unsigned}, {sum, unsigned}, {unsigned, sum}} {
		out, c, e := Group(s, b, nil, aggs)
		holdsGroup(t, "overflow", out, api.Schema{}, c, api.Batch{}, e, api.ErrOverflow)
	}
}

// named is an array of a Choice whose one child is a text, which all its rows name.
func named(t testing.TB, f api.Field, text string, rows int) api.Data {
	t.Helper()
	return api.Data{Length: rows, Buffers: [][]byte{make([]byte, rows), make([]byte, 4*rows)}, Children: []api.Data{formOf(t, f.Type.Fields[0], []api.Value{{Text: text}})}}
}

// rising is an array of the numbers from 0 on.
func rising(t testing.TB, f api.Field, rows int) api.Data {
	t.Helper()
	l := make([]api.Value, rows)
	for i := range l {
		l[i].Num = int64(i)
	}
	return formOf(t, f, l)
}

// P20.2: columns are made from the first one on, each built ahead of the next one; what can't be built is chapter 9's error.
func TestBuiltInOrder(t *testing.T) {
	s := schemaOf(t, "i int16, c choice(x text), w dict(0, int8, v text), u uint64")
	seventeen := strings.Repeat("x", 17)
	l, large := make([]api.Value, api.MaxRows), make([]api.Value, api.MaxRows)
	for i := range l {
		l[i].Text, large[i].Num = seventeen, -1
	}
	b := api.Batch{Rows: api.MaxRows, Columns: []api.Data{rising(t, s.Fields[0], api.MaxRows), named(t, s.Fields[1], seventeen, api.MaxRows), formOf(t, s.Fields[2], l), formOf(t, s.Fields[3], large)}}
	// In pairs the rows come to half as many groups, in one all but the first two have a group of their own.
	pairs, one := api.Batch{Rows: b.Rows, Columns: slices.Clone(b.Columns)}, api.Batch{Rows: b.Rows, Columns: slices.Clone(b.Columns)}
	half, later := make([]api.Value, api.MaxRows), make([]api.Value, api.MaxRows)
	for i := range half {
		half[i].Num, later[i].Num = int64(i/2), int64(max(i, 1))
	}
	pairs.Columns[0], one.Columns[0] = formOf(t, s.Fields[0], half), formOf(t, s.Fields[0], later)
	words, sum := api.Agg{Op: api.AggFirst, Column: 2, Name: "words"}, api.Agg{Op: api.AggSum, Column: 3, Name: "sum"}
	for what, x := range map[string]struct {
		b    api.Batch
		by   []int
		aggs []api.Agg
		want api.Errno
	}{
		"by a column that can't be built":         {b, []int{0, 1}, nil, api.ErrBytes},
		"that column first":                       {b, []int{1, 0}, nil, api.ErrBytes},
		"one row of it can":                       {b, []int{1}, nil, api.OK},
		"an aggregate that can't":                 {b, []int{0}, []api.Agg{words}, api.ErrBytes},
		"half as many can":                        {pairs, []int{0}, []api.Agg{words}, api.OK},
		"overflow behind a column that can":       {pairs, []int{0}, []api.Agg{words, sum}, api.ErrOverflow},
		"overflow behind by that can't":           {b, []int{0, 1}, []api.Agg{sum}, api.ErrBytes},
		"by can, and then overflow":               {pairs, []int{0, 1}, []api.Agg{sum}, api.ErrOverflow},
		"no overflow behind aggregates":           {b, []int{0}, []api.Agg{sum, words}, api.ErrBytes},
		"overflow, and then one that can't":       {one, []int{0}, []api.Agg{sum, words}, api.ErrOverflow},
		"one that can't, and then overflow":       {one, []int{0}, []api.Agg{words, sum}, api.ErrBytes},
		"a dictionary by which is grouped can be": {b, []int{0, 2}, []api.Agg{sum}, api.OK},
	} {
		out, c, e := Group(s, x.b, x.by, x.aggs)
		if e != x.want || e != api.OK && len(out.Fields)+c.Rows+len(c.Columns) != 0 {
			t.Errorf("%s: %d, not %d", what, e, x.want)
		}
	}
}

// P20.2: rows of a group, and single rows, of which no array could be built are folded all the same.
func TestRowsThatCantBeBuilt(t *testing.T) {
	s := schemaOf(t, "k int16, c choice(x text), l list(i choice(z span(64, p span(64, q int8))?))")
	const rows = 512
	long := strings.Repeat("x", 300)
	// Each list names the one null twice, which can't be laid twice: its zero values would be more rows than an array has.
	spans := s.Fields[2].Type.Fields[0].Type.Fields[0]
	items := api.Data{Length: 2 * rows, Buffers: [][]byte{make([]byte, 2*rows), make([]byte, 8*rows)}, Children: []api.Data{formOf(t, spans, []api.Value{null})}}
	var offsets []byte
	for i := range rows + 1 {
		offsets = append(offsets, byte(2*i), byte(2*i>>8), 0, 0)
	}
	lists := api.Data{Length: rows, Buffers: [][]byte{nil, offsets}, Children: []api.Data{items}}
	numbers := make([]api.Value, rows)
	for i := range numbers {
		numbers[i].Num = int64(i % 2)
	}
	b := api.Batch{Rows: rows, Columns: []api.Data{formOf(t, s.Fields[0], numbers), named(t, s.Fields[1], long, rows), lists}}
	for k, d := range b.Columns[1:] {
		if _, e := build.Form(s.Fields[k+1], d); e == api.OK {
			t.Fatalf("column %d can be built", k+1)
		}
	}
	want := schemaOf(t, "k int16, c int64, l int64, r int64")
	aggs := []api.Agg{{Op: api.AggCount, Column: 1, Name: "c"}, {Op: api.AggCount, Column: 2, Name: "l"}, {Op: api.AggRows, Column: 2, Name: "r"}}
	out, c, e := Group(s, b, []int{0}, aggs)
	holdsGroup(t, "two groups", out, want, c, batchOf(t, want, "0 1", "256 256", "256 256", "256 256"), e, api.OK)
	out, c, e = Group(s, b, nil, aggs)
	holdsGroup(t, "one group", out, api.Schema{Fields: want.Fields[1:]}, c, batchOf(t, api.Schema{Fields: want.Fields[1:]}, "512", "512", "512"), e, api.OK)
	holdsNumbers(t, "by what can't be built", s, b, []int{2, 1}, make([]int, rows), []int{0})
	b.Columns[0] = rising(t, s.Fields[0], rows)
	if _, c, e := Group(s, b, []int{0}, aggs); e != api.OK || c.Rows != rows || textOf(t, want.Fields[2], c.Columns[2]) != strings.TrimSpace(strings.Repeat("1 ", rows)) {
		t.Errorf("a group a row: %d rows, %d", c.Rows, e)
	}
	if _, c, e := Group(s, b, nil, []api.Agg{{Op: api.AggFirst, Column: 2, Name: "f"}}); e != api.ErrRows || len(c.Columns) != 0 {
		t.Errorf("a first one that can't be built: %d", e)
	}
	if _, _, e := Group(s, b, []int{2}, nil); e != api.ErrRows {
		t.Errorf("by a list that can't be built: %d", e)
	}
	if _, e := Distinct(s, b, []int{2}); e != api.ErrRows {
		t.Errorf("Distinct of a list that can't be built: %d", e)
	}
}

// P20.2: as many groups as rows, of columns with many fields, in good time.
func TestManyGroups(t *testing.T) {
	s := schemaOf(t, "i int16, w text, s struct("+many(20, "f%d int64?")+")")
	rows := make([][]api.Value, api.MaxRows)
	for i := range rows {
		v := api.Value{List: make([]api.Value, 20)}
		v.List[i%20].Num = int64(i)
		rows[i] = []api.Value{{Num: int64(i)}, {Text: strings.Repeat("w", i%32)}, v}
	}
	b, e, _ := build.Batch(s, rows)
	if e != api.OK {
		t.Fatal(e)
	}
	out, c, e := Group(s, b, []int{0}, []api.Agg{{Op: api.AggMin, Column: 1, Name: "w"}, {Op: api.AggMax, Column: 2, Name: "s"}, {Op: api.AggSum, Column: 0, Name: "sum"}, {Op: api.AggRows, Column: 2, Name: "rows"}})
	if e != api.OK || c.Rows != api.MaxRows || !slices.Equal(c.Columns[1].Buffers[2], b.Columns[1].Buffers[2]) || lies(c.Columns[2].Children...) != lies(b.Columns[2].Children...) {
		t.Errorf("%d rows, %d", c.Rows, e)
	}
	for i, v := range valuesIn(t, out.Fields[3], c.Columns[3]) {
		if v.Num != int64(i) {
			t.Fatalf("group %d: %d", i, v.Num)
		}
	}
}
