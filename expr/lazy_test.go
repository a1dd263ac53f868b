package expr

import (
	"fmt"
	"slices"
	"strings"
	"testing"

	"colonnade/api"
	"colonnade/array"
	"colonnade/build"
)

// valueOf tells the value that an expression makes of the one row of a batch, or the fault.
func valueOf(t testing.TB, s api.Schema, b api.Batch, e api.Expr) (api.Value, api.Fault) {
	t.Helper()
	d, x := Eval(s, b, e)
	if x.Err != api.OK {
		return api.Value{}, x
	}
	f, _ := Type(s, e)
	a, y := array.Open(f, d)
	if y.Err != api.OK || a.Len() != 1 {
		t.Fatalf("%s: %s, %d rows", text(e), told(y), a.Len())
	}
	v, _ := a.Get(0)
	return v, x
}

// P22.5: at a row If refuses just what its condition refuses, then what the one branch refuses; Else, And, Or likewise; all others what their arguments refuse, in their order.
func TestLazyRefusals(t *testing.T) {
	c := newChance(21)
	count := map[string]int{}
	for range 8000 {
		s, b, e := c.typedOnes(t, 0, 4)
		b = c.batch(t, s, 1)
		_, got := valueOf(t, s, b, e)
		if len(e.Args) == 0 {
			continue
		}
		var first api.Value
		want := api.Fault{}
		for k := range e.Args {
			if k > 0 && !asks(e.Op, k, first) {
				count["not asked"]++
				continue
			}
			v, x := valueOf(t, s, b, e.Args[k])
			if x.Err != api.OK {
				want = api.Fault{Err: x.Err, Path: append([]int{k}, x.Path...)}
				count["refused"]++
				break
			}
			if k == 0 {
				first = v
			}
		}
		if want.Err == api.OK && len(got.Path) == 0 && (e.Op == api.OpCast && got.Err == api.ErrLost || got.Err == api.ErrOverflow || got.Err == api.ErrZero) {
			count["the whole"]++
			continue
		}
		if told(got) != told(want) {
			t.Fatalf("%s: %s, not %s", text(e), told(got), told(want))
		}
	}
	for what, least := range map[string]int{"not asked": 600, "refused": 600, "the whole": 100} {
		if count[what] < least {
			t.Errorf("%s: only %d", what, count[what])
		}
	}
}

// asks tells whether a node asks an argument behind the first one, which is that.
func asks(op, k int, first api.Value) bool {
	isTrue, isFalse := !first.Null && first.Num == 1, !first.Null && first.Num == 0
	switch op {
	case api.OpIf:
		return k == 1 && isTrue || k == 2 && !isTrue
	case api.OpElse:
		return first.Null
	case api.OpAnd:
		return !isFalse
	case api.OpOr:
		return !isTrue
	}
	return true
}

// P22.5: any node, made one that refuses, refuses just the rows at which it is asked for, the first of them is told; it changes nothing where it isn't.
func TestWhoIsAsked(t *testing.T) {
	c := newChance(22)
	asked, not := 0, 0
	boolean, one, zero := fieldOf(t, "x bool"), lit(fieldOf(t, "x int8"), api.Value{Num: 1}), lit(fieldOf(t, "x int8"), api.Value{})
	refusing := op(api.OpEq, op(api.OpDiv, one, zero), one)
	for range 6000 {
		s, b, e := c.typedOnes(t, 4, 4)
		way := oneSpot(c, above(e)).way
		hurt := replaced(e, way, func(x api.Expr) api.Expr { return op(api.OpIf, refusing, x, x) })
		calm := replaced(e, way, func(x api.Expr) api.Expr { return op(api.OpIf, lit(boolean, truth), x, x) })
		if _, x := Type(s, calm); x.Err != api.OK {
			continue // it has another plain field
		}
		at, was := whenAsked(t, s, b, calm, way)
		got := evalOf(s, b, hurt)
		if at < 0 {
			not++
			same(t, text(hurt), got, evalOf(s, b, calm))
			continue
		}
		asked++
		want := api.Fault{Err: api.ErrZero, Path: append(slices.Clone(way), 0, 0), At: at}
		if was {
			want = evalOf(s, b, calm).x
		}
		if told(got.x) != told(want) {
			t.Fatalf("%s: %s, not %s", text(hurt), told(got.x), told(want))
		}
	}
	if asked < 1000 || not < 300 {
		t.Errorf("%d asked, %d not", asked, not)
	}
}

// truth is true.
var truth = api.Value{Num: 1}

// oneSpot tells one of some nodes.
func oneSpot(c *chance, l []spot) spot { return l[c.Intn(len(l))] }

// replaced is an expression in which the node to which a way leads is another one.
func replaced(e api.Expr, way []int, other func(api.Expr) api.Expr) api.Expr {
	if len(way) == 0 {
		return other(e)
	}
	e.Args = slices.Clone(e.Args)
	e.Args[way[0]] = replaced(e.Args[way[0]], way[1:], other)
	return e
}

// whenAsked tells the first row at which the node to which a way leads is asked; -1: there is none. (The node is an OpIf with a literal as its condition, which is asked just if the node is.) True: a row is refused ahead of that.
func whenAsked(t testing.TB, s api.Schema, b api.Batch, e api.Expr, way []int) (int, bool) {
	rows, err := build.Rows(s, b)
	if err != api.OK {
		t.Fatalf("Rows: %d", err)
	}
	fields, _ := modelFields(s, e)
	for i, row := range rows {
		var ways []string
		a := asking{fields: fields, row: map[string]api.Value{}, asked: &ways}
		for k, f := range s.Fields {
			a.row[f.Name] = row[k]
		}
		_, x := a.ask(e, nil)
		if slices.Contains(ways, fmt.Sprint(append(slices.Clone(way), 0))) {
			return i, false
		}
		if x.Err != api.OK {
			return i, true
		}
	}
	return -1, false
}

// What is asked, by hand: each of the texts over c true, false, null (a row each), with a node that refuses where R stands.
func TestLazyByHand(t *testing.T) {
	s := schemaOf(t, "c bool?, n int8?")
	b := batchOf(t, s, "true false null", "1 0 null")
	refusing := "eq(div(lit(x int8 = 1), lit(z int8 = 0)), lit(x int8 = 1))"
	for _, x := range []struct {
		text string
		at   int // the first row that is refused; -1: none
		way  []int
	}{
		{"if(c, R, c)", 0, []int{1, 0}}, {"if(c, c, R)", 1, []int{2, 0}}, {"if(R, c, c)", 0, []int{0, 0}},
		{"else(c, R)", 2, []int{1, 0}}, {"else(R, c)", 0, []int{0, 0}},
		{"and(c, R)", 0, []int{1, 0}}, {"and(not(c), R)", 1, []int{1, 0}}, {"and(R, lit(f bool = false))", 0, []int{0, 0}},
		{"or(c, R)", 1, []int{1, 0}}, {"or(not(c), R)", 0, []int{1, 0}}, {"or(isnull(c), if(isnull(c), R, c))", -1, nil}, {"or(R, lit(f bool = true))", 0, []int{0, 0}},
		{"and(lit(f bool? = null), R)", 0, []int{1, 0}}, {"or(lit(f bool? = null), R)", 0, []int{1, 0}}, {"else(lit(f bool? = null), R)", 0, []int{1, 0}}, {"if(lit(f bool? = null), R, c)", -1, nil}, {"if(lit(f bool? = null), c, R)", 0, []int{2, 0}},
		{"and(lit(f bool = false), R)", -1, nil}, {"or(lit(f bool = true), R)", -1, nil}, {"else(lit(f bool = false), R)", -1, nil},
		{"eq(c, R)", 0, []int{1, 0}}, {"isnull(R)", 0, []int{0, 0}}, {"if(isnull(c), R, c)", 2, []int{1, 0}}, {"if(isnull(n), c, eq(div(lit(x int8 = 1), n), n))", 1, []int{2, 0}},
		{"else(if(c, lit(y bool? = null), c), R)", 0, []int{1, 0}},
	} {
		e := parsed(t, strings.ReplaceAll(x.text, "R", refusing))
		want := modelEval(s, b, e)
		same(t, x.text, evalOf(s, b, e), want)
		if x.at < 0 && want.x.Err != api.OK || x.at >= 0 && told(want.x) != told(api.Fault{Err: api.ErrZero, Path: x.way, At: x.at}) {
			t.Errorf("%s: %s", x.text, told(want.x))
		}
	}
}

// Three-valued logic, else and if, of all values there are.
func TestLogic(t *testing.T) {
	s := schemaOf(t, "a bool?, b bool?")
	b := batchOf(t, s, "true true true false false false null null null", "true false null true false null true false null")
	for text, want := range map[string]string{
		"and(a, b)":        "true false null false false false null false null",
		"or(a, b)":         "true true true true false null true null null",
		"else(a, b)":       "true true true false false false true false null",
		"if(a, b, not(b))": "true false null false true null false true null",
	} {
		evalIs(t, s, b, text, "a bool?", want, api.Fault{})
	}
	// Where a value that is not null stands in a dictionary, or in runs, it is the same.
	s = schemaOf(t, "a dict(0, int8, v bool)?, b runs(v bool?)?")
	b = batchOf(t, s, "true true true false false false null null null", "true false null true false null true false null")
	evalIs(t, s, b, "and(a, b)", "a bool?", "true false null false false false null false null", api.Fault{})
	evalIs(t, s, b, "or(b, a)", "b bool?", "true true true true false null true null null", api.Fault{})
	evalIs(t, s, b, "else(a, b)", "a bool?", "true true true false false false true false null", api.Fault{})
}
