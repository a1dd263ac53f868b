package expr

import (
	"testing"

	"colonnade/api"
)

// P22.3: what Fold makes, by hand; each folds to itself then.
func TestFoldByHand(t *testing.T) {
	s := schemaOf(t, "a int8, b bool?, t text")
	for text, want := range map[string]string{
		"a":                   "a",
		"lit(x int8? = null)": "lit(x int8? = null)",
		"add(lit(x int8 = 1), lit(y int8? = null))":                                  "lit(x int8? = null)",
		"add(lit(x int8 = 1), a)":                                                    "add(lit(x int8 = 1), a)",
		"add(a, neg(neg(lit(x int8 = 1))))":                                          "add(a, lit(x int8 = 1))",
		"cast(lit(x int8 = 1), y text)":                                              `lit(y text = "1")`,
		"cast(lit(x text = \"a\"), y dict(7, uint8, w bytes)?)":                      `lit(y dict(7, uint8, w bytes)? = x"61")`,
		"cast(cast(lit(x text = \"a\"), y int8), z text)":                            "cast(cast(lit(x text = \"a\"), y int8), z text)",
		"cast(cast(glue(lit(x text = \"a\"), lit(x text = \"b\")), y int8), z text)": "cast(cast(lit(x text = \"ab\"), y int8), z text)",
		"cast(a, y text)": "cast(a, y text)",
		"isnull(lit(x dict(0, int8, w text)? = null))":                    "lit(x bool = true)",
		"else(lit(x dict(0, int8, w text)? = null), lit(y text = \"z\"))": `lit(x text = "z")`,
		"add(lit(x int8 = 127), neg(lit(y int8 = -1)))":                   "add(lit(x int8 = 127), lit(y int8 = 1))",
		// A branch that is not asked refuses nothing; one that is makes the whole stay.
		"if(lit(c bool = true), lit(x int8 = 1), div(lit(y int8 = 1), neg(lit(z int8 = 0))))":  "lit(c int8 = 1)",
		"if(lit(c bool = false), lit(x int8 = 1), div(lit(y int8 = 1), neg(lit(z int8 = 0))))": "if(lit(c bool = false), lit(x int8 = 1), div(lit(y int8 = 1), lit(z int8 = 0)))",
		"if(lit(c bool? = null), div(lit(y int8 = 1), neg(lit(z int8 = 0))), lit(x int8 = 1))": "lit(c int8 = 1)",
		"else(lit(x int8 = 1), div(lit(y int8 = 1), lit(z int8 = 0)))":                         "lit(x int8 = 1)",
		"and(lit(x bool = false), eq(div(lit(y int8 = 1), lit(z int8 = 0)), lit(y int8 = 1)))": "lit(x bool = false)",
		"or(lit(x bool = true), eq(div(lit(y int8 = 1), lit(z int8 = 0)), lit(y int8 = 1)))":   "lit(x bool = true)",
		"and(lit(x bool? = null), eq(div(lit(y int8 = 1), lit(z int8 = 0)), lit(y int8 = 1)))": "and(lit(x bool? = null), eq(div(lit(y int8 = 1), lit(z int8 = 0)), lit(y int8 = 1)))",
		// What holds a column stays, though no column is asked.
		"and(lit(x bool = false), b)":                                                       "and(lit(x bool = false), b)",
		"if(lit(c bool = true), lit(x int8 = 1), a)":                                        "if(lit(c bool = true), lit(x int8 = 1), a)",
		"if(isnull(lit(c bool? = null)), sub(a, a), add(lit(x int8 = 1), lit(x int8 = 2)))": "if(lit(c bool = true), sub(a, a), lit(x int8 = 3))",
	} {
		foldIs(t, s, text, want)
	}
}

// A literal that can't be laid stays, as what asks it does.
func TestFoldLong(t *testing.T) {
	s := schemaOf(t, "a bool")
	f := fieldOf(t, "x text")
	long := lit(f, textOf(api.MaxBytes+1))
	full, one := lit(f, textOf(api.MaxBytes)), lit(f, textOf(1))
	truthful := lit(fieldOf(t, "c bool"), truth)
	for _, e := range []api.Expr{long, op(api.OpIsNull, long), op(api.OpGlue, full, one), op(api.OpLen, op(api.OpGlue, one, full)), op(api.OpIf, named("a"), long, one)} {
		if g, x := Fold(s, e); x.Err != api.OK || !sameExpr(g, e) {
			t.Errorf("Fold: %d, %s", g.Op, told(x))
		}
	}
	e := op(api.OpIf, truthful, one, long)
	if g, x := Fold(s, e); x.Err != api.OK || !sameExpr(g, lit(fieldOf(t, "c text"), textOf(1))) {
		t.Errorf("Fold: %d, %s", g.Op, told(x))
	}
}

// P22.3: what hangs on no column and refuses nothing is one literal, of the whole's field; a batch's rows hang on nothing else.
func TestFoldedIsLiteral(t *testing.T) {
	c := newChance(31)
	literals, others := 0, 0
	for range 4000 {
		var s api.Schema
		e := maker{c, t, s}.any(4)
		f, x := Type(s, e)
		if x.Err != api.OK {
			continue
		}
		got := evalOf(s, api.Batch{Rows: 1}, e)
		g, x := Fold(s, e)
		if x.Err != api.OK || (g.Op == api.OpLiteral) != (got.x.Err == api.OK) {
			t.Fatalf("Fold of %s: %s, %s", text(e), text(g), told(x))
		}
		if g.Op != api.OpLiteral {
			others++
			continue
		}
		literals++
		if !sameField(g.Field, f) {
			t.Fatalf("Fold of %s: of the field %v, not %v", text(e), g.Field, f)
		}
		same(t, text(e), answer{d: formOf(t, f, []api.Value{g.Value})}, got)
	}
	if literals < 1000 || others < 200 {
		t.Errorf("%d literals, %d others", literals, others)
	}
}
