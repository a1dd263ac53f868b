package stats

import (
	"fmt"
	"strings"
	"testing"

	"colonnade/api"
	"colonnade/build"
	"colonnade/expr"
)

// comesTo holds May against an answer.
func comesTo(t testing.TB, what string, s api.Schema, e api.Expr, l []api.Stat, want bool, err api.Errno) {
	t.Helper()
	if may, x := May(s, e, l); may != want || x != err {
		text, _ := expr.Print(e)
		t.Fatalf("%s: %s of %v: %v, %d, not %v, %d", what, text, l, may, int(x), want, int(err))
	}
}

// P23.3: whatever the schema, the expression and the stats, wrong ones too.
func TestMay(t *testing.T) {
	c := newChance(6)
	count := map[api.Errno]int{}
	for range 25000 {
		s := c.schema(t, 4)
		m := maker{c, t, s}
		e := m.truth(4)
		l := c.stats(s)
		for c.in(8) {
			m.hurt(&e)
		}
		if len(l) > 0 && c.in(16) {
			c.hurtStat(&l[c.Intn(len(l))])
		}
		if c.in(40) {
			l = append(l, api.Stat{Rows: 1})
		}
		if len(s.Fields) > 0 && c.in(40) {
			s.Fields[c.Intn(len(s.Fields))].Name = one(c, []string{"a", "", "z"})
		}
		want, err := modelMay(s, e, l)
		comesTo(t, "by chance", s, e, l, want, err)
		count[err]++
	}
	for _, err := range []api.Errno{api.OK, api.ErrType, api.ErrUnlike, api.ErrValue, api.ErrExpr, api.ErrColumn, api.ErrArgs} {
		if count[err] < 50 {
			t.Errorf("the error %d came only %d times", err, count[err])
		}
	}
}

// P23.3: what is wrong is told in the chapter's order: the schema, how many stats, a stat, the expression, its kind; all ahead of there being no rows.
func TestMayWrong(t *testing.T) {
	s := schemaOf(t, "a int8, b bool?")
	not := api.Schema{Fields: []api.Field{s.Fields[0], s.Fields[0]}}
	right, wrong := []api.Stat{{Rows: 1}, {}}, []api.Stat{{}, {Rows: -1}}
	filter := exprOf(t, "eq(a, lit(x int8 = 1))")
	for _, c := range []struct {
		s    api.Schema
		e    api.Expr
		l    []api.Stat
		want api.Errno
	}{
		{not, filter, right, api.ErrType}, {not, api.Expr{}, wrong[:1], api.ErrType}, {not, named("z"), nil, api.ErrType},
		{s, filter, right[:1], api.ErrUnlike}, {s, api.Expr{}, nil, api.ErrUnlike}, {s, filter, append(right, wrong...), api.ErrUnlike}, {s, filter, wrong[1:], api.ErrUnlike},
		{s, filter, wrong, api.ErrValue}, {s, api.Expr{}, wrong, api.ErrValue}, {s, named("a"), wrong, api.ErrValue},
		{s, api.Expr{}, right, api.ErrExpr}, {s, named("z"), right, api.ErrColumn}, {s, op(api.OpNot, named("z")), right, api.ErrColumn}, {s, op(api.OpNot, named("a")), right, api.ErrArgs}, {s, op(api.OpAnd, named("b")), right, api.ErrArgs},
		{s, lit(s.Fields[0], num(300)), right, api.ErrValue}, {s, lit(api.Field{}, num(300)), right, api.ErrType}, {s, api.Expr{Op: api.OpCast, Field: fieldOf(t, "x list(i int8)"), Args: []api.Expr{named("b")}}, right, api.ErrCast},
		{s, named("a"), right, api.ErrType}, {s, lit(s.Fields[0], num(3)), right, api.ErrType}, {s, op(api.OpAdd, named("a"), named("a")), right, api.ErrType}, {s, exprOf(t, "lit(x text = \"a\")"), right, api.ErrType},
		{s, filter, right, api.OK},
	} {
		comesTo(t, "wrong", c.s, c.e, c.l, false, c.want)
	}
	// A Bool in a dictionary, or in runs, will do.
	s = schemaOf(t, "a dict(0, int8, w bool)?, b runs(v bool)")
	rows := []api.Stat{{Rows: 1}, {Rows: 1}}
	for _, name := range []string{"a", "b"} {
		comesTo(t, "plain Bool", s, named(name), rows, true, api.OK)
	}
	comesTo(t, "plain Bool", s, exprOf(t, "lit(x dict(0, int8, w bool)? = true)"), rows, true, api.OK)
	comesTo(t, "plain Bool", s, exprOf(t, "lit(x runs(w bool) = false)"), rows, false, api.OK)
}

// P23.3: no row of one column, and whatever the others are, none is met; also by what may be refused.
func TestMayNoRows(t *testing.T) {
	s := schemaOf(t, "a int8, b bool?")
	for _, e := range []api.Expr{exprOf(t, "lit(x bool = true)"), named("b"), exprOf(t, "eq(div(a, a), a)"), exprOf(t, "isnull(b)")} {
		for _, l := range [][]api.Stat{{{}, {}}, {{Rows: 1}, {}}, {{}, {Rows: 1}}} {
			comesTo(t, "no rows", s, e, l, false, api.OK)
		}
		comesTo(t, "rows", s, e, []api.Stat{{Rows: 1}, {Rows: 2, Nulls: 1}}, true, api.OK)
	}
	comesTo(t, "no columns", api.Schema{}, exprOf(t, "lit(x bool = true)"), nil, true, api.OK)
	comesTo(t, "no columns", api.Schema{}, exprOf(t, "lit(x bool = false)"), nil, false, api.OK)
	comesTo(t, "no columns", api.Schema{}, exprOf(t, "lit(x bool? = null)"), nil, false, api.OK)
}

// P23.3: a column held against a literal, both ways round, and turned by not: all bounds and literals out of a few, with nulls and without, by what comes of each value between the bounds.
func TestMayCompared(t *testing.T) {
	s := schemaOf(t, "n int8?")
	f := fieldOf(t, "x int8?")
	few := []int64{-2, -1, 0, 1, 2}
	for n := api.OpEq; n <= api.OpGe; n++ {
		for _, c := range few {
			for _, low := range few {
				for high := low; high <= 2; high++ {
					var straight, turned [2]bool // whether it is true, or false, of some value
					for v := low; v <= high; v++ {
						for k, is := range []bool{isSo(n, cmp(v, c)), isSo(n, cmp(c, v))} {
							straight[0], straight[1] = straight[0] || k == 0 && is, straight[1] || k == 0 && !is
							turned[0], turned[1] = turned[0] || k == 1 && is, turned[1] || k == 1 && !is
						}
					}
					for nulls := range 2 {
						l := []api.Stat{bounds(2, nulls, num(low), num(high))}
						e, back := op(n, named("n"), lit(f, num(c))), op(n, lit(f, num(c)), named("n"))
						comesTo(t, "straight", s, e, l, straight[0], api.OK)
						comesTo(t, "not", s, op(api.OpNot, e), l, straight[1], api.OK)
						comesTo(t, "turned", s, back, l, turned[0], api.OK)
						comesTo(t, "not turned", s, op(api.OpNot, back), l, turned[1], api.OK)
					}
				}
			}
			for _, e := range []api.Expr{op(n, named("n"), lit(f, num(c))), op(n, lit(f, num(c)), named("n"))} {
				for _, e := range []api.Expr{e, op(api.OpNot, e)} {
					comesTo(t, "without bounds", s, e, []api.Stat{{Rows: 2, Nulls: 1}}, true, api.OK)
					comesTo(t, "all null", s, e, []api.Stat{{Rows: 2, Nulls: 2}}, false, api.OK)
				}
			}
		}
		for _, e := range []api.Expr{op(n, named("n"), lit(f, null)), op(n, lit(f, null), named("n"))} {
			for _, x := range []api.Stat{{Rows: 2}, {Rows: 2, Nulls: 2}, bounds(2, 1, num(0), num(1)), bounds(1, 0, num(0), num(0))} {
				comesTo(t, "a null", s, e, []api.Stat{x}, false, api.OK)
				comesTo(t, "a null", s, op(api.OpNot, e), []api.Stat{x}, false, api.OK)
			}
		}
	}
}

// cmp tells which of two numbers is the lesser one.
func cmp(a, b int64) int {
	switch {
	case a < b:
		return -1
	case a > b:
		return 1
	}
	return 0
}

// P23.3: literals longer than bounds, letters cut apart, numbers without a sign, floating-point numbers: by the order of the plain kind.
func TestMayOrders(t *testing.T) {
	a := strings.Repeat("a", 16)
	for _, c := range []struct {
		field      string
		low, high  api.Value
		filter     string
		want, back bool // what comes of the filter, and of its opposite
	}{
		{"n text", text(a), text(a), `eq(n, lit(x text = "` + a + `a"))`, false, true},
		{"n text", text(a), text("b"), `eq(n, lit(x text = "` + a + `a"))`, true, true},
		{"n text", text(a), text("b"), `lt(n, lit(x text = "` + a + `"))`, false, true},
		{"n text", text("\xc3"), text("\xc4"), `gt(n, lit(x text = "é"))`, true, true},
		{"n text", text("\xc4"), text("\xc5"), `le(n, lit(x text = "é"))`, false, true},
		{"n text", text("\xff"), text("\xff"), `ge(n, lit(x text = "é"))`, true, false},
		{"n bytes", text("b"), text("c"), `lt(lit(x bytes = x"61"), n)`, true, false},
		{"n fixed(2)", text("b"), text("bbb"), `eq(n, lit(x fixed(2) = x"6262"))`, true, true},
		{"n fixed(2)", text("b"), text("bbb"), `lt(n, lit(x fixed(2) = x"6162"))`, false, true},
		{"n fixed(2)", text("b"), text("b"), `gt(lit(x fixed(2) = x"6262"), n)`, true, false},
		{"n uint64", num(5), num(-1), `gt(n, lit(x uint64 = 9223372036854775808))`, true, true},
		{"n uint64", num(5), num(1<<63 - 1), `ge(n, lit(x uint64 = 9223372036854775808))`, false, true},
		{"n float64", num(0), num(0), `eq(n, lit(x float64 = -0p0))`, false, true},
		{"n float64", num(-1 << 63), num(-1 << 63), `lt(n, lit(x float64 = 0p0))`, true, false},
		{"n float64", num(0), num(0x7ff << 52), `gt(n, lit(x float64 = inf))`, false, true},
		{"n float64", num(0), num(0x7ff8 << 48), `gt(n, lit(x float64 = inf))`, true, true},
		{"n dict(0, int8, w int8)?", num(3), num(5), `gt(n, lit(x int8 = 5))`, false, true},
		{"n runs(v int8)", num(3), num(5), `gt(n, lit(x dict(0, uint8, w int8)? = 4))`, true, true},
		{"n int8", num(3), num(5), `le(n, lit(x runs(w int8) = 2))`, false, true},
		{"n bool", num(0), num(0), `n`, false, true},
		{"n bool", num(1), num(1), `n`, true, false},
		{"n bool", num(0), num(1), `n`, true, true},
		{"n bool", num(0), num(0), `gt(lit(x bool = true), n)`, true, false},
		{"n bool", num(1), num(1), `eq(n, lit(x bool = false))`, false, true},
	} {
		s, l := schemaOf(t, c.field), []api.Stat{bounds(1, 0, c.low, c.high)}
		e := exprOf(t, c.filter)
		comesTo(t, c.field, s, e, l, c.want, api.OK)
		comesTo(t, c.field, s, op(api.OpNot, e), l, c.back, api.OK)
	}
}

// P23.3: and, or, not of all sets of outcomes: what any of the first one's makes of any of the second one's.
func TestMayLogic(t *testing.T) {
	s := schemaOf(t, "a bool?, b bool?")
	sets := map[string]api.Stat{
		"f": bounds(1, 0, num(0), num(0)), "t": bounds(1, 0, num(1), num(1)), "ft": bounds(2, 0, num(0), num(1)), "ftx": {Rows: 2, Nulls: 1},
		"n": {Rows: 1, Nulls: 1}, "fn": bounds(2, 1, num(0), num(0)), "tn": bounds(2, 1, num(1), num(1)), "ftn": bounds(3, 1, num(0), num(1)),
	}
	has := func(set, what string) bool { return strings.Contains(set, what) }
	for a, x := range sets {
		for b, y := range sets {
			l := []api.Stat{x, y}
			for text, want := range map[string]bool{
				"a":                                has(a, "t"),
				"not(b)":                           has(b, "f"),
				"not(not(a))":                      has(a, "t"),
				"and(a, b)":                        has(a, "t") && has(b, "t"),
				"or(a, b)":                         has(a, "t") || has(b, "t"),
				"not(and(a, b))":                   has(a, "f") || has(b, "f"),
				"not(or(a, b))":                    has(a, "f") && has(b, "f"),
				"and(a, not(a))":                   has(a, "t") && has(a, "f"), // outcomes are sets, whatever column they come of
				"or(and(a, b), not(b))":            has(a, "t") && has(b, "t") || has(b, "f"),
				"isnull(a)":                        has(a, "n") || a == "ftx",
				"not(isnull(a))":                   a != "n",
				"eq(a, b)":                         true,
				"isnull(not(a))":                   true,
				"not(isnull(not(a)))":              true,
				"eq(not(a), lit(x bool = true))":   true,
				"and(b, isnull(and(a, b)))":        has(b, "t"),
				"and(b, lit(x bool = true))":       has(b, "t"),
				"or(b, lit(x bool? = null))":       has(b, "t"),
				"not(and(b, lit(x bool? = null)))": has(b, "f"),
			} {
				comesTo(t, fmt.Sprint(a, " and ", b), s, exprOf(t, text), l, want, api.OK)
			}
		}
	}
}

// P23.3: of literals alone what calc makes of them.
func TestMayLiterals(t *testing.T) {
	s := schemaOf(t, "a int8")
	l := []api.Stat{bounds(1, 0, num(0), num(0))}
	for text, want := range map[string]bool{
		"lit(x bool = true)": true, "lit(x bool = false)": false, "lit(x bool? = null)": false,
		"isnull(lit(x int8? = null))": true, "isnull(lit(x int8? = 3))": false, "not(isnull(lit(x int8 = 3)))": true,
		"isnull(lit(x null? = null))": true, "isnull(lit(x list(i int8)? = [1]))": false, "isnull(lit(x struct()? = null))": true,
		"eq(lit(x int8 = 3), lit(y int8 = 3))": true, "ne(lit(x int8 = 3), lit(y int8 = 3))": false, "lt(lit(x int8 = 3), lit(y int8 = 3))": false, "le(lit(x int8 = 3), lit(y int8 = 3))": true,
		"gt(lit(x int8 = 4), lit(y int8 = 3))": true, "lt(lit(x int8 = 4), lit(y int8 = 3))": false, "ge(lit(x int8 = 2), lit(y int8 = 3))": false,
		"eq(lit(x int8? = null), lit(y int8 = 3))": false, "not(eq(lit(x int8? = null), lit(y int8? = null)))": false,
		"eq(lit(x null? = null), lit(y null? = null))":                 false,
		"eq(lit(x list(i int8) = [1,2]), lit(y list(i int8) = [1,2]))": true, "lt(lit(x list(i int8) = [1,2]), lit(y list(i int8) = [1]))": false,
		`gt(lit(x choice(p int8, q text) = q("a")), lit(y choice(p int8, q text) = p(5)))`: true,
		"eq(lit(x dict(0, int8, w text)? = \"a\"), lit(y text = \"a\"))":                   true,
		"ge(lit(x runs(w uint64) = 18446744073709551615), lit(y uint64 = 1))":              true,
	} {
		comesTo(t, "literals", s, exprOf(t, text), l, want, api.OK)
	}
}

// P23.3: what may be refused at a row, or of which nothing is known, may be true wherever it stands, also where it can't be.
func TestMayUnsure(t *testing.T) {
	s := schemaOf(t, "a int8, b bool?, t text, l list(i int8)?, c choice(p int8), d dict(0, int8, w list(i int8))?, n null?, r runs(v span(1, i int8))")
	one := api.Stat{Rows: 1}
	l := []api.Stat{bounds(1, 0, num(0), num(0)), bounds(1, 0, num(0), num(0)), bounds(1, 0, text(""), text("")), one, one, one, {Rows: 1, Nulls: 1}, one}
	for _, sure := range []string{"eq(a, lit(x int8 = 1))", "b", "isnull(t)", "isnull(lit(x list(i int8) = []))", "lt(t, lit(x text = \"\"))"} {
		comesTo(t, "sure", s, exprOf(t, sure), l, false, api.OK)
	}
	for _, unsure := range []string{
		"eq(add(a, a), a)", "eq(sub(a, a), a)", "eq(mul(a, a), a)", "eq(div(a, a), a)", "eq(rem(a, a), a)", "eq(neg(a), a)",
		"eq(else(a, a), a)", "if(b, b, b)", "eq(glue(t, t), t)", "eq(len(t), lit(x int64 = 1))", "begins(t, t)", "holds(t, t)", "cast(b, x bool?)",
		"isnull(l)", "isnull(c)", "isnull(d)", "isnull(n)", "isnull(r)", "eq(l, l)", "eq(l, lit(x list(i int8)? = null))", "ne(n, n)",
		"begins(lit(x text = \"a\"), lit(x text = \"b\"))", "isnull(add(a, a))",
	} {
		e := exprOf(t, unsure)
		no := lit(fieldOf(t, "x bool"), num(0))
		for _, e := range []api.Expr{e, op(api.OpNot, e), op(api.OpAnd, no, e), op(api.OpAnd, e, no), op(api.OpIsNull, e), op(api.OpNot, op(api.OpOr, op(api.OpNot, no), op(api.OpIsNull, e))), op(api.OpEq, no, op(api.OpNot, e))} {
			comesTo(t, "unsure", s, e, l, true, api.OK)
		}
	}
}

// P23.3: so may a literal whose value can't be built alone.
func TestMayUnbuilt(t *testing.T) {
	s := schemaOf(t, "a int8, t text")
	l := []api.Stat{bounds(1, 0, num(0), num(0)), bounds(1, 0, text(""), text(""))}
	heavy := fieldOf(t, "x span(64, i span(64, j span(64, k int8)))?")
	many := api.Value{}
	for range 9 {
		many.List = append(many.List, text(strings.Repeat("x", 8000)))
	}
	for what, c := range map[string]struct {
		f     api.Field
		v     api.Value
		built bool
	}{
		"a long text":       {fieldOf(t, "x text"), text(strings.Repeat("x", 65537)), false},
		"a text as long":    {fieldOf(t, "x text"), text(strings.Repeat("x", 65536)), true},
		"a null of Spans":   {heavy, null, false},
		"many long texts":   {fieldOf(t, "x list(i text)"), many, false},
		"fewer long texts":  {fieldOf(t, "x list(i text)"), api.Value{List: many.List[:8]}, true},
		"runs of long ones": {fieldOf(t, "x runs(v bytes)"), text(strings.Repeat("x", 65537)), false},
	} {
		if _, err, _ := build.Of(c.f, []api.Value{c.v}); (err == api.OK) != c.built {
			t.Fatalf("%s: build.Of: %d", what, err)
		}
		e := lit(c.f, c.v)
		no := lit(fieldOf(t, "x bool"), num(0))
		for _, e := range []api.Expr{op(api.OpAnd, no, op(api.OpIsNull, e)), op(api.OpAnd, op(api.OpIsNull, e), no), op(api.OpLt, e, e), op(api.OpNot, op(api.OpLe, e, e)), op(api.OpAnd, no, op(api.OpIsNull, op(api.OpLe, e, e)))} {
			comesTo(t, what, s, e, l, !c.built, api.OK)
		}
		if c.f.Type.Kind == api.Text {
			comesTo(t, what, s, op(api.OpGe, named("t"), e), l, !c.built, api.OK)
			comesTo(t, what, s, op(api.OpLt, e, named("t")), l, !c.built, api.OK)
		}
	}
}

// P23.3: at as many nodes as an expression has, side by side and one within the other.
func TestMayMany(t *testing.T) {
	s := schemaOf(t, "a bool")
	for _, c := range []struct {
		x    api.Stat
		want bool
	}{{bounds(1, 0, num(0), num(0)), false}, {bounds(1, 0, num(0), num(1)), true}} {
		l := []api.Stat{c.x}
		deep := named("a")
		for range api.MaxExprs - 2 {
			deep = op(api.OpNot, deep)
		}
		comesTo(t, "deep", s, deep, l, c.want, api.OK) // turned 510 times
		comesTo(t, "deeper", s, op(api.OpNot, deep), l, true, api.OK)
		comesTo(t, "too deep", s, op(api.OpNot, op(api.OpNot, deep)), l, false, api.ErrExpr)
		wide := named("a")
		for range (api.MaxExprs - 2) / 2 {
			wide = op(api.OpOr, wide, named("a"))
		}
		comesTo(t, "wide", s, wide, l, c.want, api.OK)
	}
}
