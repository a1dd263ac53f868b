package scan

import (
	"slices"
	"strings"
	"testing"

	"colonnade/api"
	"colonnade/expr"
)

// P24.1: what New tells first.
func TestNewWhich(t *testing.T) {
	table := tableOf(t, `a int64, b text, c bool, n bool?, d dict(0, uint8, w bool), r runs(v bool), s struct(z bool) | "k" "t"`)
	f := opened(t, put(t, table, api.Option{}))
	type fault = api.Fault
	for _, c := range []struct {
		columns string
		filter  string
		workers int
		want    fault
	}{
		{"", "", 1, fault{}},
		{"b a", "c", 8, fault{}},
		{"", "n", 2, fault{}},
		{"a b c n d r s", "not(c)", 3, fault{}},
		{"z", "", 1, fault{Err: api.ErrColumn}},
		{"a k", "", 1, fault{Err: api.ErrColumn, At: 1}},
		{"a A", "", 1, fault{Err: api.ErrColumn, At: 1}},
		{"a b a", "", 1, fault{Err: api.ErrTwice, At: 2}},
		{"a b b a", "", 1, fault{Err: api.ErrTwice, At: 2}},
		{"x x", "", 1, fault{Err: api.ErrColumn}},
		{"a a x", "", 1, fault{Err: api.ErrTwice, At: 1}},
		{"a x a", "", 1, fault{Err: api.ErrColumn, At: 1}},
		{"a b a", "add(c, c)", 0, fault{Err: api.ErrTwice, At: 2}},
		{"x", "add(c, c)", 0, fault{Err: api.ErrColumn}},
		{"a", "not(not(eq(a, x)))", 0, fault{Err: api.ErrColumn, Path: []int{0, 0, 1}}},
		{"a", "not(eq(a, b))", 1, fault{Err: api.ErrArgs, Path: []int{0}}},
		{"a", "and(c, cast(s, x bool))", 1, fault{Err: api.ErrCast, Path: []int{1}}},
		{"a", "a", 1, fault{Err: api.ErrType}},
		{"a", "d", 1, fault{Err: api.ErrType}},
		{"a", "r", 9, fault{Err: api.ErrType}},
		{"a", "s", 1, fault{Err: api.ErrType}},
		{"a", "lit(x dict(0, int8, v bool) = true)", 1, fault{Err: api.ErrType}},
		{"a", "lit(x runs(v bool) = true)", 1, fault{Err: api.ErrType}},
		{"a", "cast(c, x dict(0, int8, v bool))", 1, fault{Err: api.ErrType}},
		{"a", "lit(x bool? = null)", 1, fault{}},
		{"a", "or(d, r)", 1, fault{}},
		{"a", "cast(d, x bool)", 1, fault{}},
		{"a", "if(c, d, d)", 1, fault{}},
		{"a", "c", 0, fault{Err: api.ErrArg}},
		{"a", "c", 9, fault{Err: api.ErrArg}},
		{"a", "", -1, fault{Err: api.ErrArg}},
		{"a", "", -1 << 63, fault{Err: api.ErrArg}},
		{"a", "", 1<<63 - 1, fault{Err: api.ErrArg}},
		{"a", "", 1<<32 + 1, fault{Err: api.ErrArg}},
	} {
		columns, filter := strings.Fields(c.columns), exprOf(t, c.filter)
		s, x := New(f, columns, filter, c.workers)
		if told(x) != told(c.want) || (s == nil) != (x.Err != api.OK) {
			t.Errorf("New(%v, %s, %d): %s, not %s", columns, c.filter, c.workers, told(x), told(c.want))
		}
		if m := (model{f, columns, filter}).wrong(c.workers); told(m) != told(c.want) {
			t.Errorf("the model of %v, %s, %d: %s, not %s", columns, c.filter, c.workers, told(m), told(c.want))
		}
	}
}

// P24.1: expressions made by hand, which have no text.
func TestNewByHand(t *testing.T) {
	f := opened(t, put(t, small(t), api.Option{}))
	whole := fieldOf(t, "x int8")
	none := api.Expr{Name: "a", Field: whole, Value: null, Args: []api.Expr{{Op: 99}, {Op: -1}}}
	if s := made(t, f, []string{"b"}, none, 1); !isText(texts(t, s), []string{`"x"`, `"y"`}, []string{`"z"`}) {
		t.Error("what stands in an expression without an operation is no filter")
	}
	many := op(api.OpNot, named("a"))
	for range 600 {
		many = op(api.OpNot, many)
	}
	for i, c := range []struct {
		e    api.Expr
		want api.Errno
	}{
		{api.Expr{Op: 26}, api.ErrExpr},
		{api.Expr{Op: -1}, api.ErrExpr},
		{op(api.OpNot, api.Expr{}), api.ErrExpr},
		{many, api.ErrExpr},
		{lit(whole, api.Value{Num: 300}), api.ErrValue},
		{lit(fieldOf(t, "x bool"), null), api.ErrValue},
		{lit(api.Field{Name: "x"}, null), api.ErrType},
	} {
		_, want := expr.Type(f.Schema(), c.e)
		s, x := New(f, []string{"b"}, c.e, 0)
		if s != nil || x.Err != c.want || told(x) != told(want) {
			t.Errorf("%d: %s, not %s", i, told(x), told(want))
		}
	}
}

// P24.1, R1: lists as long as they like, and expressions and values that stand in themselves.
func TestNewEnds(t *testing.T) {
	f := opened(t, put(t, small(t), api.Option{}))
	if _, x := New(f, make([]string, 1<<20), api.Expr{}, 1); told(x) != told(api.Fault{Err: api.ErrColumn}) {
		t.Errorf("names without letters: %s", told(x))
	}
	if _, x := New(f, slices.Repeat([]string{"a", "b"}, 1<<20), api.Expr{}, 1); told(x) != told(api.Fault{Err: api.ErrTwice, At: 2}) {
		t.Errorf("names again and again: %s", told(x))
	}
	if _, x := New(f, []string{"a", strings.Repeat("a", 1<<24)}, api.Expr{}, 1); told(x) != told(api.Fault{Err: api.ErrColumn, At: 1}) {
		t.Errorf("a long name: %s", told(x))
	}
	args := make([]api.Expr, 2)
	args[0], args[1] = op(api.OpAnd, args...), op(api.OpAnd, args...)
	args[0].Args, args[1].Args = args, args
	if _, x := New(f, nil, args[0], 1); x.Err != api.ErrExpr {
		t.Errorf("an expression in itself: %v", x)
	}
	if s := made(t, f, nil, api.Expr{Args: args}, 1); len(s.Blocks()) != 2 {
		t.Error("no operation: no filter")
	}
	values := make([]api.Value, 1)
	values[0] = api.Value{List: values}
	if _, x := New(f, nil, op(api.OpIsNull, lit(fieldOf(t, "x list(i list(j int8))"), values[0])), 1); x.Err != api.ErrValue {
		t.Errorf("a literal in itself: %v", x)
	}
	ring := make([]api.Field, 1)
	ring[0] = api.Field{Name: "i", Type: api.Type{Kind: api.List, Fields: ring}}
	if _, x := New(f, nil, op(api.OpIsNull, lit(ring[0], null)), 1); x.Err != api.ErrType {
		t.Errorf("a field in itself: %v", x)
	}
}

// P24.1: the columns come in the order in which they are asked for, whatever order the file has; with the file's notes, those of the filter not among them.
func TestSchema(t *testing.T) {
	table := tableOf(t, `a int8, b text?, c list(i int8), d dict(3, uint8, w text) | "k" "t", "k" "u"`, `1 null [1,2] "x"; 2 "b" [] "y"`, `3 "c" [3] "x"`)
	f := opened(t, put(t, table, api.Option{}))
	for _, c := range []struct {
		columns, filter, schema string
		all                     [][]string
	}{
		{"d a", "gt(a, lit(n int8 = 1))", `d dict(3, uint8, w text), a int8 | "k" "t", "k" "u"`, [][]string{{`"y"2`}, {`"x"3`}}},
		{"c", "isnull(b)", `c list(i int8) | "k" "t", "k" "u"`, [][]string{{`[1,2]`}}},
		{"a d c b", "eq(d, lit(x text = \"x\"))", `a int8, d dict(3, uint8, w text), c list(i int8), b text? | "k" "t", "k" "u"`, [][]string{{`1"x"[1,2]null`}, {`3"x"[3]"c"`}}},
		{"b a", "", `b text?, a int8 | "k" "t", "k" "u"`, [][]string{{`null1`, `"b"2`}, {`"c"3`}}},
		{"", "eq(b, lit(x text = \"b\"))", `| "k" "t", "k" "u"`, [][]string{{""}}},
		{"", "lit(x bool = true)", `| "k" "t", "k" "u"`, [][]string{{"", ""}, {""}}},
		{"", "lit(x bool? = null)", `| "k" "t", "k" "u"`, nil},
		{"a", "lit(x bool = false)", `a int8 | "k" "t", "k" "u"`, nil},
	} {
		s := made(t, f, strings.Fields(c.columns), exprOf(t, c.filter), 2)
		if got := texts(t, s); printed(s.Schema()) != c.schema || !isText(got, c.all...) {
			t.Errorf("%s, %s: %s, %v", c.columns, c.filter, printed(s.Schema()), got)
		}
	}
}
