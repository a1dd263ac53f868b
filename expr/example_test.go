package expr

import (
	"slices"
	"testing"

	"colonnade/api"
)

// theSchema and theBatch are those of the chapter's examples.
func theSchema(t testing.TB) api.Schema { return schemaOf(t, "a int64?, t text") }

func theBatch(t testing.TB) api.Batch {
	return batchOf(t, theSchema(t), "6 null 0", `"x" "" "yx"`)
}

// Example 1.
func TestExampleType(t *testing.T) {
	s := theSchema(t)
	for _, x := range []struct {
		text, want string
		fault      api.Fault
	}{
		{"add(a, lit(x int64 = 1))", "a int64?", api.Fault{}},
		{"add(a, t)", "", api.Fault{Err: api.ErrArgs}},
		{"not(eq(b, a))", "", api.Fault{Err: api.ErrColumn, Path: []int{0, 0}}},
		{"cast(a, x bool)", "x bool", api.Fault{}},
	} {
		typeIs(t, s, parsed(t, x.text), x.want, x.fault)
	}
	typeIs(t, s, lit(fieldOf(t, "x int8"), api.Value{Num: 300}), "", api.Fault{Err: api.ErrValue})
}

// typeIs holds Type against a field's text, or a fault.
func typeIs(t testing.TB, s api.Schema, e api.Expr, want string, fault api.Fault) {
	t.Helper()
	var f api.Field
	if fault.Err == api.OK {
		f = fieldOf(t, want)
	}
	got, x := Type(s, e)
	if told(x) != told(fault) || !sameField(got, f) {
		t.Errorf("%s, %v, not %s, %v", told(x), got, told(fault), f)
	}
}

// Example 2.
func TestExampleEval(t *testing.T) {
	s, b := theSchema(t), theBatch(t)
	for _, x := range []struct {
		text, field, want string
		fault             api.Fault
	}{
		{"add(a, lit(x int64 = 1))", "a int64?", "7 null 1", api.Fault{}},
		{"div(lit(x int64 = 6), a)", "", "", api.Fault{Err: api.ErrZero, At: 2}},
		{"if(gt(a, lit(x int64 = 0)), div(lit(x int64 = 6), a), lit(x int64 = -1))", "a int64?", "1 -1 -1", api.Fault{}},
		{"add(a, div(a, a))", "", "", api.Fault{Err: api.ErrZero, Path: []int{1}, At: 2}},
	} {
		evalIs(t, s, b, x.text, x.field, x.want, x.fault)
	}
}

// evalIs holds Eval against values of a field, or a fault.
func evalIs(t testing.TB, s api.Schema, b api.Batch, text, field, want string, fault api.Fault) {
	t.Helper()
	w := answer{x: fault}
	if fault.Err == api.OK {
		f := fieldOf(t, field)
		w.d = formOf(t, f, valuesOf(t, f, want))
		typeIs(t, s, parsed(t, text), field, fault)
	}
	same(t, text, evalOf(s, b, parsed(t, text)), w)
}

// Example 3.
func TestExampleFold(t *testing.T) {
	for text, want := range map[string]string{
		"add(a, add(lit(x int64 = 1), lit(y int64 = 2)))": "add(a, lit(x int64 = 3))",
		"div(lit(x int8 = 1), neg(lit(z int8 = 0)))":      "div(lit(x int8 = 1), lit(z int8 = 0))",
	} {
		foldIs(t, theSchema(t), text, want)
	}
}

// foldIs holds the text of what Fold makes of a text against another one; that folds to itself.
func foldIs(t testing.TB, s api.Schema, text, want string) {
	t.Helper()
	for _, from := range []string{text, want} {
		e, x := Fold(s, parsed(t, from))
		if x.Err != api.OK {
			t.Fatalf("Fold(%s): %s", from, told(x))
		}
		if got := printed(t, e); got != want {
			t.Errorf("Fold(%s): %s, not %s", from, got, want)
		}
	}
}

// Example 4.
func TestExampleText(t *testing.T) {
	if l := Columns(parsed(t, "eq(t, glue(t, t))")); !slices.Equal(l, []string{"t"}) {
		t.Errorf("Columns: %v", l)
	}
	b := fieldOf(t, "b bool?")
	text := "and(isnull(a), lit(b bool? = null))"
	if got := printed(t, op(api.OpAnd, op(api.OpIsNull, named("a")), lit(b, null))); got != text {
		t.Errorf("Print: %s", got)
	}
	for text, at := range map[string]int{"add(a,b)": 6, "foo(a)": 0, "lit(x int8 = 300)": 13, "cast(a, x int8": 14, "a b": 1, "lit(x  int8 = 3)": 0} {
		parseIs(t, text, api.ErrForm, at)
	}
}

// parseIs holds Parse of a text that is no expression against an error and its place.
func parseIs(t testing.TB, text string, want api.Errno, place int) {
	t.Helper()
	e, x, at := Parse(text)
	if x != want || at != place || !sameExpr(e, api.Expr{}) {
		t.Errorf("Parse(%.60s): %+v, %d at %d, not %d at %d", text, e, x, at, want, place)
	}
}
