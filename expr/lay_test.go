package expr

import (
	"slices"
	"strconv"
	"strings"
	"testing"

	"colonnade/api"
	"colonnade/build"
)

// whole is a batch of such columns.
func whole(t testing.TB, s api.Schema, columns ...[]api.Value) api.Batch {
	t.Helper()
	var b api.Batch
	for k, l := range columns {
		b.Rows = len(l)
		b.Columns = append(b.Columns, formOf(t, s.Fields[k], l))
	}
	return b
}

// nums makes values of numbers.
func nums(l ...int64) []api.Value {
	var out []api.Value
	for _, n := range l {
		out = append(out, api.Value{Num: n})
	}
	return out
}

// textOf makes a text of so many bytes.
func textOf(n int) api.Value { return api.Value{Text: strings.Repeat("x", n)} }

// A literal is a value, never laid once a row: it may be as long as one that can be laid alone.
func TestLiteralOnce(t *testing.T) {
	s := schemaOf(t, "t text, n int16")
	f := fieldOf(t, "x text")
	texts, l := make([]api.Value, api.MaxRows), make([]api.Value, api.MaxRows)
	for i := range l {
		l[i].Num = int64(i)
	}
	b := whole(t, s, texts, l)
	full := lit(f, textOf(api.MaxBytes))
	lens := formOf(t, fieldOf(t, "t int64"), slices.Repeat(nums(api.MaxBytes), api.MaxRows))
	same(t, "glued", evalOf(s, b, op(api.OpLen, op(api.OpGlue, named("t"), full))), answer{d: lens})
	no := formOf(t, fieldOf(t, "t bool"), slices.Repeat(nums(0), api.MaxRows))
	same(t, "compared", evalOf(s, b, op(api.OpEq, named("t"), full)), answer{d: no})
	third := op(api.OpEq, named("n"), lit(fieldOf(t, "y int16"), api.Value{Num: 3}))
	// Once it may stand in what comes out, and not more than once.
	picked := op(api.OpIf, third, full, named("t"))
	texts = slices.Clone(texts)
	texts[3] = full.Value
	same(t, "picked", evalOf(s, b, picked), answer{d: formOf(t, fieldOf(t, "n text"), texts)})
	same(t, "laid", evalOf(s, b, full), answer{x: api.Fault{Err: api.ErrBytes, At: 1}})
	same(t, "laid", evalOf(s, b, op(api.OpIf, op(api.OpLt, named("n"), lit(fieldOf(t, "y int16"), api.Value{Num: 3})), named("t"), full)), answer{x: api.Fault{Err: api.ErrBytes, At: 4}})
	// One that can't be laid alone refuses each row.
	long := lit(f, textOf(api.MaxBytes+1))
	for way, e := range map[int]api.Expr{0: op(api.OpIsNull, long), 1: op(api.OpEq, named("t"), long)} {
		same(t, "long", evalOf(s, b, e), answer{x: api.Fault{Err: api.ErrBytes, Path: []int{way}}})
	}
	same(t, "long", evalOf(s, b, op(api.OpIf, third, op(api.OpLen, long), op(api.OpLen, named("t")))), answer{x: api.Fault{Err: api.ErrBytes, Path: []int{1, 0}, At: 3}})
	same(t, "long", evalOf(s, b, op(api.OpIf, third, op(api.OpLen, op(api.OpGlue, full, lit(f, textOf(1)))), op(api.OpLen, named("t")))), answer{x: api.Fault{Err: api.ErrBytes, Path: []int{1, 0}, At: 3}})
	same(t, "no rows", evalOf(s, whole(t, s, nil, nil), long), answer{d: formOf(t, f, nil)})
}

// A column refuses a row whose value can't be laid alone: one in which a Choice's row is named again and again.
func TestColumnRefuses(t *testing.T) {
	s := schemaOf(t, "l list(c choice(p text)), b bool")
	b := whole(t, s, []api.Value{{}, {List: []api.Value{{List: []api.Value{textOf(40000)}}}}, {}}, nums(1, 0, 1))
	twice := b.Columns[0]
	twice.Buffers[1] = []byte{0, 0, 0, 0, 0, 0, 0, 0, 2, 0, 0, 0, 2, 0, 0, 0}
	items := &twice.Children[0]
	items.Length, items.Buffers = 2, [][]byte{{0, 0}, make([]byte, 8)}
	if _, e := build.Rows(s, b); e != api.OK {
		t.Fatalf("Rows: %d", e)
	}
	for text, way := range map[string][]int{"isnull(l)": {0}, "eq(l, l)": {0}, "l": nil, "and(b, eq(b, isnull(l)))": nil, "or(b, eq(b, isnull(l)))": {1, 1, 0}, "if(b, l, l)": {2}, "isnull(else(l, l))": {0, 0}} {
		want := answer{x: api.Fault{Err: api.ErrBytes, Path: way, At: 1}}
		if text == "and(b, eq(b, isnull(l)))" {
			want = answer{d: formOf(t, fieldOf(t, "b bool"), nums(0, 0, 0))}
		}
		same(t, text, evalOf(s, b, parsed(t, text)), want)
	}
}

// A null may be more to lay as a value of a Span than in a dictionary of Spans: then Else, If and a cast refuse it, not what they ask.
func TestNullOfSpans(t *testing.T) {
	s := schemaOf(t, "d dict(0, int8, w span(64, i span(64, j span(2, k int8))))?, b bool?")
	b := whole(t, s, []api.Value{null, null}, []api.Value{{Num: 1}, null})
	truths := formOf(t, fieldOf(t, "d bool"), nums(1, 1))
	same(t, "isnull", evalOf(s, b, parsed(t, "isnull(d)")), answer{d: truths})
	same(t, "eq", evalOf(s, b, parsed(t, "eq(d, d)")), answer{d: formOf(t, fieldOf(t, "d bool?"), []api.Value{null, null})})
	same(t, "alone", evalOf(s, b, named("d")), answer{d: b.Columns[0]})
	span := "x span(64, i span(64, j span(2, k int8)))?"
	for text, way := range map[string][]int{"else(d, d)": nil, "if(b, d, d)": nil, "isnull(else(d, d))": {0}, "and(b, isnull(if(b, d, d)))": {1, 0}, "cast(d, " + span + ")": nil, "isnull(lit(" + span + " = null))": {0}} {
		same(t, text, evalOf(s, b, parsed(t, text)), answer{x: api.Fault{Err: api.ErrRows, Path: way}})
	}
	// Only where it comes out null.
	b = whole(t, s, []api.Value{null, null}, []api.Value{{Num: 0}, null})
	same(t, "behind", evalOf(s, b, parsed(t, "and(b, isnull(if(b, d, d)))")), answer{x: api.Fault{Err: api.ErrRows, Path: []int{1, 0}, At: 1}})
}

// What can't be laid as a whole is told behind all that is refused, wherever that stands, with the number of the first row that can't.
func TestWholeRefused(t *testing.T) {
	s := schemaOf(t, "n int16")
	for _, rows := range []int{2, 3, 64, 65, 129, 1000, api.MaxRows} {
		l := make([]api.Value, rows)
		for i := range l {
			l[i].Num = int64(i)
		}
		b := whole(t, s, l)
		big := lit(fieldOf(t, "x text"), textOf(40000))
		same(t, "all rows", evalOf(s, b, op(api.OpElse, op(api.OpIf, lit(fieldOf(t, "c bool"), truth), big, big), big)), answer{x: api.Fault{Err: api.ErrBytes, At: 1}})
		last := api.Value{Num: int64(rows - 1)}
		isLast := op(api.OpEq, named("n"), lit(fieldOf(t, "x int16"), last))
		lost := api.Expr{Op: api.OpCast, Field: fieldOf(t, "x text"), Args: []api.Expr{lit(fieldOf(t, "x bytes"), api.Value{Text: "\xff"})}}
		want := api.Fault{Err: api.ErrLost, Path: []int{1}, At: rows - 1}
		same(t, "a row behind", evalOf(s, b, op(api.OpIf, isLast, lost, big)), answer{x: want})
		two := op(api.OpOr, isLast, op(api.OpEq, named("n"), lit(fieldOf(t, "x int16"), api.Value{Num: last.Num - 1})))
		empty := lit(fieldOf(t, "x text"), api.Value{})
		isFirst := op(api.OpLt, named("n"), lit(fieldOf(t, "x int16"), api.Value{Num: 2}))
		same(t, "the first two", evalOf(s, b, op(api.OpIf, isFirst, big, empty)), answer{x: api.Fault{Err: api.ErrBytes, At: 1}})
		same(t, "the last two", evalOf(s, b, op(api.OpIf, two, big, empty)), answer{x: api.Fault{Err: api.ErrBytes, At: rows - 1}})
	}
}

// The other limits of building: rows, weight, indices.
func TestLimits(t *testing.T) {
	s := schemaOf(t, "n int16")
	l := make([]api.Value, 200)
	for i := range l {
		l[i].Num = int64(i)
	}
	b := whole(t, s, l)
	items := lit(fieldOf(t, "x list(i int8)"), api.Value{List: make([]api.Value, 3000)})
	same(t, "items", evalOf(s, b, items), answer{x: api.Fault{Err: api.ErrRows, At: 1}})
	lens := formOf(t, fieldOf(t, "x int64"), slices.Repeat(nums(3000), 200))
	lensOfIf := formOf(t, fieldOf(t, "n int64"), slices.Repeat(nums(3000), 200))
	same(t, "lens", evalOf(s, b, op(api.OpLen, op(api.OpIf, op(api.OpLt, named("n"), named("n")), items, items))), answer{d: lensOfIf})
	same(t, "one length", evalOf(s, b, op(api.OpLen, items)), answer{d: lens})
	dict := "x dict(0, int8, w int16)"
	same(t, "indices", evalOf(s, b, parsed(t, "cast(n, "+dict+")")), answer{x: api.Fault{Err: api.ErrIndices, At: 128}})
	same(t, "bare", evalOf(s, b, parsed(t, "neg(neg(cast(n, "+dict+")))")), answer{d: formOf(t, fieldOf(t, "x int16"), l)})
	same(t, "a list too long", evalOf(s, b, lit(items.Field, api.Value{List: make([]api.Value, api.MaxRows+1)})), answer{x: api.Fault{Err: api.ErrValue}})
}

// Values that are too heavy together, each of which isn't alone.
func TestHeavy(t *testing.T) {
	s := schemaOf(t, "b bool")
	b := whole(t, s, nums(0, 0, 1))
	f := api.Field{Name: "x", Type: api.Type{Kind: api.Struct}}
	var v api.Value
	for k := range api.MaxFields {
		f.Type.Fields = append(f.Type.Fields, fieldOf(t, "l"+strconv.Itoa(k)+" list(i int8)"))
		v.List = append(v.List, api.Value{List: make([]api.Value, api.MaxRows)})
	}
	heavy := lit(f, v)
	picked := op(api.OpIf, named("b"), heavy, heavy)
	same(t, "together", evalOf(s, b, picked), answer{x: api.Fault{Err: api.ErrRows, At: 1}})
	same(t, "apart", evalOf(s, b, op(api.OpIsNull, picked)), answer{d: formOf(t, fieldOf(t, "b bool"), nums(0, 0, 0))})
	same(t, "both sides", evalOf(s, b, op(api.OpEq, picked, heavy)), answer{d: formOf(t, fieldOf(t, "b bool"), nums(1, 1, 1))})
	same(t, "refused", evalOf(s, b, op(api.OpIf, named("b"), op(api.OpElse, lit(fieldOf(t, "y text?"), null), op(api.OpGlue, lit(fieldOf(t, "y text"), textOf(api.MaxBytes)), lit(fieldOf(t, "y text"), textOf(1)))), lit(fieldOf(t, "y text"), textOf(api.MaxBytes)))), answer{x: api.Fault{Err: api.ErrBytes, Path: []int{1, 1}, At: 2}})
	g, x := Fold(s, op(api.OpIsNull, op(api.OpIf, lit(fieldOf(t, "c bool"), truth), heavy, heavy)))
	if x.Err != api.OK || printed(t, g) != "lit(c bool = false)" {
		t.Errorf("Fold: %d, %s", g.Op, told(x))
	}
}

// Rows are asked one behind the other, and of one row the nodes from within: the first that refuses is told, whatever others refuse behind it.
func TestFirstRefusal(t *testing.T) {
	s := schemaOf(t, "a int8, b int8, t text")
	b := batchOf(t, s, "1 2 3 4", "1 0 0 1", `"1" "2" "x" "y"`)
	for text, want := range map[string]api.Fault{
		"add(div(a, b), cast(t, x int8))":                          {Err: api.ErrZero, Path: []int{0}, At: 1},
		"add(cast(t, x int8), div(a, b))":                          {Err: api.ErrZero, Path: []int{1}, At: 1},
		"add(cast(t, x int8), mul(a, lit(x int8 = 50)))":           {Err: api.ErrLost, Path: []int{0}, At: 2},
		"add(mul(a, lit(x int8 = 60)), cast(t, x int8))":           {Err: api.ErrOverflow, Path: []int{0}, At: 2},
		"div(mul(a, lit(x int8 = 60)), sub(cast(t, x int8), a))":   {Err: api.ErrZero},
		"add(sub(lit(x int8 = 100), a), mul(lit(x int8 = 29), a))": {Err: api.ErrOverflow},
		"rem(a, b)": {Err: api.ErrZero, At: 1},
		"neg(sub(sub(b, lit(x int8 = 127)), lit(x int8 = 1)))": {Err: api.ErrOverflow, At: 1},
		"cast(t, x int8)":          {Err: api.ErrLost, At: 2},
		"len(cast(t, x fixed(2)))": {Err: api.ErrLost, Path: []int{0}},
	} {
		same(t, text, evalOf(s, b, parsed(t, text)), answer{x: want})
		same(t, text, modelEval(s, b, parsed(t, text)), answer{x: want})
	}
}

// A batch that may not be is told ahead of what is wrong with the expression, and behind the schema.
func TestBatches(t *testing.T) {
	s := schemaOf(t, "a int8, b text")
	hurt := func(change func(b *api.Batch)) api.Batch {
		b := batchOf(t, s, "2 1", `"x" "y"`)
		change(&b)
		return b
	}
	for want, l := range map[api.Errno][]api.Batch{
		api.ErrColumns: {
			hurt(func(b *api.Batch) { b.Rows = 3 }), hurt(func(b *api.Batch) { b.Rows = -1 }), hurt(func(b *api.Batch) { b.Rows = api.MaxRows + 1 }), hurt(func(b *api.Batch) { b.Columns = b.Columns[:1] }),
			hurt(func(b *api.Batch) { b.Columns[1].Length = 1 }), hurt(func(b *api.Batch) { b.Columns[0].Buffers = nil; b.Columns[1].Length = 1 }), {},
		},
		api.ErrUtf:    {hurt(func(b *api.Batch) { b.Columns[1].Buffers[2][0] = 0xff })},
		api.ErrShape:  {hurt(func(b *api.Batch) { b.Columns[0].Buffers = nil }), hurt(func(b *api.Batch) { b.Columns[0], b.Columns[1] = b.Columns[1], b.Columns[0] })},
		api.ErrLength: {hurt(func(b *api.Batch) { b.Columns[0].Nulls = 1; b.Columns[1].Buffers = nil })},
	} {
		for _, b := range l {
			for _, e := range []api.Expr{named("a"), named("z"), {}, op(api.OpAdd), lit(fieldOf(t, "x int8"), api.Value{Num: 1}), lit(fieldOf(t, "x int8"), null)} {
				same(t, "a batch that may not be", evalOf(s, b, e), answer{x: api.Fault{Err: want}})
			}
		}
	}
	// Columns that weigh too much together.
	s = schemaOf(t, "a dict(0, int8, w text), b dict(1, int8, w text)")
	texts := slices.Repeat([]api.Value{textOf(600)}, api.MaxRows)
	b := whole(t, s, texts, texts)
	same(t, "too heavy", evalOf(s, b, named("z")), answer{x: api.Fault{Err: api.ErrRows}})
	b.Columns[1] = formOf(t, s.Fields[1], make([]api.Value, api.MaxRows))
	same(t, "heavy", evalOf(s, b, op(api.OpLen, named("a"))), answer{d: formOf(t, fieldOf(t, "a int64"), slices.Repeat(nums(600), api.MaxRows))})
}

// Batches without rows, and without columns.
func TestEmpty(t *testing.T) {
	one := lit(fieldOf(t, "x int8"), api.Value{Num: 1})
	zero := lit(fieldOf(t, "x int8"), api.Value{})
	for _, e := range []api.Expr{one, op(api.OpDiv, one, zero), op(api.OpNeg, one)} {
		same(t, text(e), evalOf(api.Schema{}, api.Batch{}, e), answer{d: formOf(t, fieldOf(t, "x int8"), nil)})
	}
	same(t, "rows without columns", evalOf(api.Schema{}, api.Batch{Rows: 3}, one), answer{d: formOf(t, one.Field, nums(1, 1, 1))})
	same(t, "rows without columns", evalOf(api.Schema{}, api.Batch{Rows: 3}, op(api.OpDiv, one, zero)), answer{x: api.Fault{Err: api.ErrZero}})
	same(t, "rows without columns", evalOf(api.Schema{}, api.Batch{Rows: api.MaxRows}, one), answer{d: formOf(t, one.Field, slices.Repeat(nums(1), api.MaxRows))})
	same(t, "rows without columns", evalOf(api.Schema{}, api.Batch{Rows: api.MaxRows + 1}, one), answer{x: api.Fault{Err: api.ErrColumns}})
	same(t, "no args", evalOf(api.Schema{}, api.Batch{}, op(api.OpAnd)), answer{x: api.Fault{Err: api.ErrArgs}})
}

// As deep as an expression may be, over as many rows as there may be.
func TestDeepEval(t *testing.T) {
	s := schemaOf(t, "n int16?")
	l := make([]api.Value, api.MaxRows)
	for i := range l {
		l[i].Num = int64(i)
	}
	l[17] = null
	b := whole(t, s, l)
	e := named("n")
	for range api.MaxExprs - 2 {
		e = op(api.OpNeg, e)
	}
	same(t, "deep", evalOf(s, b, e), answer{d: formOf(t, s.Fields[0], l)})
	e = named("n")
	for range (api.MaxExprs - 1) / 3 {
		e = op(api.OpIf, op(api.OpIsNull, e), named("n"), named("n"))
		if len(above(e))+4 > api.MaxExprs {
			break
		}
	}
	same(t, "deep ifs", evalOf(s, b, e), answer{d: formOf(t, fieldOf(t, "n int16?"), l)})
}
