package expr

import (
	"slices"
	"testing"

	"colonnade/api"
	"colonnade/array"
	"colonnade/build"
)

// P22.1: the columns, by hand.
func TestColumns(t *testing.T) {
	for text, want := range map[string][]string{
		"a": {"a"}, "lit(a int8 = 1)": nil, "add(b, add(a, c))": {"b", "a", "c"}, "add(add(b, a), add(b, c))": {"b", "a", "c"}, "cast(cast(z, y int8), a, x int8)": {"z", "a"},
		"and(lit(x bool = false), if(c, b, c))": {"c", "b"}, "or()": nil, "neg(B, b, B)": {"B", "b"},
	} {
		if got := Columns(parsed(t, text)); !slices.Equal(got, want) {
			t.Errorf("Columns(%s): %v, not %v", text, got, want)
		}
	}
	// Whatever is wrong but what an expression may be.
	f := fieldOf(t, "x int8")
	wrong := op(api.OpAdd, named("b"), lit(f, null), lit(api.Field{}, null), api.Expr{Op: api.OpCast, Args: []api.Expr{named("a")}})
	if got := Columns(wrong); !slices.Equal(got, []string{"b", "a"}) {
		t.Errorf("Columns: %v", got)
	}
	for _, e := range []api.Expr{{}, {Op: 99}, op(api.OpAdd, named("a"), named("0")), op(api.OpAdd, named("a"), api.Expr{Op: api.OpLiteral, Name: "b"})} {
		if got := Columns(e); len(got) > 0 {
			t.Errorf("Columns: %v", got)
		}
	}
}

// P22.6: what Eval answers hangs on the columns of Columns alone, and on what they denote: others may be other ones, or gone, in any order, and all may lie otherwise.
func TestColumnsAlone(t *testing.T) {
	c := newChance(32)
	gone := 0
	for range 5000 {
		s, b, e := c.typedOnes(t, 5, 4)
		names := Columns(e)
		var other api.Schema
		otherBatch := api.Batch{Rows: b.Rows}
		for _, k := range c.Perm(len(s.Fields)) {
			f, d := s.Fields[k], b.Columns[k]
			if !slices.Contains(names, f.Name) {
				gone++
				if c.in(3) {
					continue
				}
				name := f.Name
				f = c.field(t, name)
				number(&f, k)
				d = c.anyhow(t, f, c.column(f, b.Rows))
			} else {
				d = c.again(t, f, d)
			}
			other.Fields, otherBatch.Columns = append(other.Fields, f), append(otherBatch.Columns, d)
		}
		same(t, text(e), evalOf(other, otherBatch, e), evalOf(s, b, e))
	}
	if gone < 2000 {
		t.Errorf("only %d other columns", gone)
	}
}

// P22.2: what Eval answers is an array of Type's field in build form, with a row a row of the batch.
func TestTyped(t *testing.T) {
	c := newChance(33)
	for range 3000 {
		s, b, e := c.asked(t, 8, 4)
		f, x := Type(s, e)
		d, y := Eval(s, b, e)
		if x.Err != api.OK && told(x) != told(y) {
			t.Fatalf("%s: Type %s, Eval %s", text(e), told(x), told(y))
		}
		if y.Err != api.OK {
			continue
		}
		isForm(t, f, d, b.Rows)
	}
}

// isForm holds an array against what build makes of its values.
func isForm(t testing.TB, f api.Field, d api.Data, rows int) {
	t.Helper()
	if x := array.Check(f, d); x.Err != api.OK || d.Length != rows {
		t.Fatalf("%d rows, not %d; Check: %s", d.Length, rows, told(x))
	}
	if !build.IsForm(f, d) {
		t.Fatalf("%s is not in build form", lies(d))
	}
}
