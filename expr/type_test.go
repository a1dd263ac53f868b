package expr

import (
	"slices"
	"strings"
	"testing"

	"colonnade/api"
)

// refused holds Type, Fold and Eval against a fault of Type's.
func refused(t testing.TB, what string, s api.Schema, e api.Expr, want api.Fault) {
	t.Helper()
	f, x := Type(s, e)
	if told(x) != told(want) || !sameField(f, api.Field{}) {
		t.Errorf("%s: Type: %v, %s, not %s", what, f, told(x), told(want))
	}
	g, x := Fold(s, e)
	if told(x) != told(want) || !sameExpr(g, api.Expr{}) {
		t.Errorf("%s: Fold: %+v, %s, not %s", what, g, told(x), told(want))
	}
	b := api.Batch{}
	for _, f := range s.Fields {
		b.Columns = append(b.Columns, formOf(t, f, nil))
	}
	same(t, what, evalOf(s, b, e), answer{x: want})
}

// A schema that may not be is told ahead of all else.
func TestTypeSchema(t *testing.T) {
	f := fieldOf(t, "a int8")
	for what, s := range map[string]api.Schema{
		"a name twice": {Fields: []api.Field{f, f}},
		"no kind":      {Fields: []api.Field{{Name: "a"}}},
		"many notes":   {Notes: make([]api.Note, api.MaxNotes+1)},
		"many fields":  {Fields: make([]api.Field, api.MaxFields+1)},
	} {
		for _, e := range []api.Expr{named("a"), named("z"), {}, op(api.OpAdd), lit(f, api.Value{Num: 300})} {
			for _, b := range []api.Batch{{}, {Rows: -1}, {Columns: []api.Data{{Length: -1}}}} {
				same(t, what, evalOf(s, b, e), answer{x: api.Fault{Err: api.ErrType}})
			}
			if f, x := Type(s, e); told(x) != told(api.Fault{Err: api.ErrType}) || !sameField(f, api.Field{}) {
				t.Errorf("%s: Type: %v, %s", what, f, told(x))
			}
			if g, x := Fold(s, e); told(x) != told(api.Fault{Err: api.ErrType}) || !sameExpr(g, api.Expr{}) {
				t.Errorf("%s: Fold: %+v, %s", what, g, told(x))
			}
		}
	}
}

// Each node of the table may have the table's fields alone.
func TestTable(t *testing.T) {
	f := fieldOf(t, "x int8")
	changes := map[string]func(e *api.Expr){
		"name": func(e *api.Expr) { e.Name = "a" },
		"args": func(e *api.Expr) { e.Args = []api.Expr{named("a")} },

		"field name":     func(e *api.Expr) { e.Field.Name = "a" },
		"field nullable": func(e *api.Expr) { e.Field.Nullable = true },
		"field kind":     func(e *api.Expr) { e.Field.Type.Kind = api.Bool },
		"field width":    func(e *api.Expr) { e.Field.Type.Width = 1 },
		"field id":       func(e *api.Expr) { e.Field.Type.ID = 1 },
		"field index":    func(e *api.Expr) { e.Field.Type.Index = 1 },
		"field child":    func(e *api.Expr) { e.Field.Type.Fields = []api.Field{f} },

		"value null": func(e *api.Expr) { e.Value.Null = true },
		"value num":  func(e *api.Expr) { e.Value.Num = 1 },
		"value text": func(e *api.Expr) { e.Value.Text = "a" },
		"value list": func(e *api.Expr) { e.Value.List = make([]api.Value, 1) },
	}
	for n := -2; n <= api.OpLiteral+2; n++ {
		may := "args"
		switch n {
		case api.OpCast:
			may = "args field"
		case api.OpColumn:
			may = "name"
		case api.OpLiteral:
			may = "field value"
		}
		for what, change := range changes {
			e := api.Expr{Op: n}
			if n == api.OpColumn {
				e.Name = "b"
			}
			change(&e)
			is := n > 0 && n <= api.OpLiteral && strings.Contains(may, strings.Fields(what)[0])
			if _, x := Type(api.Schema{}, e); (x.Err != api.ErrExpr) != is || x.Err == api.OK && n < api.OpCast {
				t.Errorf("%d with %s: %s", n, what, told(x))
			}
			if _, x := Print(e); (x != api.ErrExpr) != is {
				t.Errorf("%d with %s: Print: %d", n, what, x)
			}
			above := op(api.OpAdd, named("z"), op(api.OpNeg, e))
			if l := Columns(above); (len(l) > 0) != is {
				t.Errorf("%d with %s: Columns: %v", n, what, l)
			}
			if is {
				continue
			}
			refused(t, what, api.Schema{}, e, api.Fault{Err: api.ErrExpr})
			refused(t, what, api.Schema{}, above, api.Fault{Err: api.ErrExpr, Path: []int{1, 0}})
		}
	}
}

// Lists without elements may be nil or not.
func TestEmptyLists(t *testing.T) {
	s := schemaOf(t, "a int8")
	some := func(e api.Expr) api.Expr {
		if e.Args == nil {
			e.Args = []api.Expr{}
		}
		if e.Field.Type.Fields == nil {
			e.Field.Type.Fields = []api.Field{}
		}
		if e.Value.List == nil {
			e.Value.List = []api.Value{}
		}
		return e
	}
	a, one := some(named("a")), some(lit(fieldOf(t, "x int8"), api.Value{Num: 1}))
	c := some(api.Expr{Op: api.OpCast, Field: fieldOf(t, "y int8"), Args: []api.Expr{one}})
	e := some(op(api.OpAdd, a, c))
	typeIs(t, s, e, "a int8", api.Fault{})
	if got := printed(t, e); got != "add(a, cast(lit(x int8 = 1), y int8))" {
		t.Errorf("Print: %s", got)
	}
	g, x := Fold(s, e)
	if x.Err != api.OK || printed(t, g) != "add(a, lit(y int8 = 1))" {
		t.Errorf("Fold: %+v, %s", g, told(x))
	}
}

// A column's name is one that a field may have.
func TestColumnName(t *testing.T) {
	long := strings.Repeat("n", api.MaxName)
	s := schemaOf(t, long+" int8, _ bool, A9 text")
	for name, want := range map[string]api.Errno{long: api.OK, "_": api.OK, "A9": api.OK, "a": api.ErrColumn, "int8": api.ErrColumn, "": api.ErrExpr, long + "n": api.ErrExpr, "9": api.ErrExpr, "a b": api.ErrExpr, "é": api.ErrExpr, "a\x00": api.ErrExpr, "a(b)": api.ErrExpr} {
		if f, x := Type(s, named(name)); x.Err != want || len(x.Path) > 0 || x.Err == api.OK && f.Name != name {
			t.Errorf("%s: %v, %s", name, f, told(x))
		}
	}
	// Fields within are not found.
	s = schemaOf(t, "a list(i int8)")
	refused(t, "a field within", s, named("i"), api.Fault{Err: api.ErrColumn})
}

// A column's field is the schema's, a dictionary's and a run's too; so are those of literals and casts; the others have calc's.
func TestTypeField(t *testing.T) {
	s := schemaOf(t, "a int8?, d dict(3, int8, w text)?, r runs(v dict(4, int8, w text)?)?, b bool")
	for text, want := range map[string]string{
		"a": "a int8?", "d": "d dict(3, int8, w text)?", "r": "r runs(v dict(4, int8, w text)?)?", "lit(x dict(3, int8, w text)? = null)": "x dict(3, int8, w text)?",
		"cast(d, x runs(v bytes))": "x runs(v bytes)", "cast(a, d dict(3, int8, w text))": "d dict(3, int8, w text)",
		"else(d, d)": "d text?", "else(r, lit(x text = \"\"))": "r text", "eq(d, r)": "d bool?", "isnull(r)": "r bool", "if(b, a, a)": "b int8?", "len(r)": "r int64?", "neg(a)": "a int8?",
		"glue(cast(a, x text), d)": "x text?", "if(lit(c bool? = null), lit(p int8 = 1), lit(q int8 = 2))": "c int8",
	} {
		typeIs(t, s, parsed(t, text), want, api.Fault{})
	}
}

// What is wrong with one node, in its order.
func TestTypeNode(t *testing.T) {
	s := schemaOf(t, "a int8, t text, l list(i int8), c choice(p int8), d dict(0, int8, w choice(p int8))?")
	bad := fieldOf(t, "x int8")
	bad.Type.Width = 1
	cast := func(f api.Field, args ...api.Expr) api.Expr {
		return api.Expr{Op: api.OpCast, Field: f, Args: args}
	}
	a, int8Field := named("a"), fieldOf(t, "x int8")
	for _, x := range []struct {
		e    api.Expr
		want api.Errno
	}{
		{lit(bad, api.Value{Num: 300}), api.ErrType}, {lit(api.Field{}, api.Value{}), api.ErrType}, {lit(int8Field, null), api.ErrValue}, {lit(int8Field, api.Value{Num: 128}), api.ErrValue}, {lit(int8Field, api.Value{Text: "a"}), api.ErrValue}, {lit(fieldOf(t, "x text"), api.Value{Text: "\xff"}), api.ErrValue},
		{cast(bad), api.ErrType}, {cast(bad, a, a), api.ErrType}, {cast(bad, named("l")), api.ErrType}, {cast(api.Field{}, a), api.ErrType},
		{cast(int8Field), api.ErrArgs}, {cast(int8Field, a, a), api.ErrArgs}, {cast(int8Field, named("l"), a), api.ErrArgs}, {cast(int8Field, named("l")), api.ErrCast}, {cast(fieldOf(t, "x null?"), a), api.ErrCast},
		{op(api.OpAdd), api.ErrArgs}, {op(api.OpAdd, a), api.ErrArgs}, {op(api.OpAdd, a, a, a), api.ErrArgs}, {op(api.OpAdd, a, named("t")), api.ErrArgs}, {op(api.OpNot, a), api.ErrArgs}, {op(api.OpIf, a, a, a), api.ErrArgs}, {op(api.OpGlue, a, a), api.ErrArgs}, {op(api.OpHolds), api.ErrArgs},
		{op(api.OpElse, named("d"), named("d")), api.ErrArgs}, // a Choice that may be null
	} {
		refused(t, text(x.e), s, x.e, api.Fault{Err: x.want})
		refused(t, text(x.e), s, op(api.OpIsNull, x.e), api.Fault{Err: x.want, Path: []int{0}})
		refused(t, text(x.e), s, op(api.OpAdd, a, a, op(api.OpNot, x.e)), api.Fault{Err: x.want, Path: []int{2, 0}})
	}
}

// Which node is told: of those that are none the first one from above, ahead of all else; then the first one from within.
func TestTypeOrder(t *testing.T) {
	s := schemaOf(t, "a int8")
	a, z, none := named("a"), named("z"), api.Expr{Op: 99}
	wrong := lit(fieldOf(t, "x int8"), api.Value{Num: 300})
	nodes := func(l ...api.Expr) api.Expr { return op(api.OpAdd, l...) }
	for _, x := range []struct {
		e    api.Expr
		err  api.Errno
		path []int
	}{
		{nodes(z, none), api.ErrExpr, []int{1}},
		{nodes(nodes(z, none), none), api.ErrExpr, []int{0, 1}},
		{nodes(nodes(a, nodes(none)), none), api.ErrExpr, []int{0, 1, 0}},
		{api.Expr{Op: 99, Args: []api.Expr{none}}, api.ErrExpr, nil},
		{nodes(a, api.Expr{Op: api.OpColumn, Name: "a", Args: []api.Expr{none}}), api.ErrExpr, []int{1}},
		{nodes(z, wrong), api.ErrColumn, []int{0}},
		{nodes(wrong, z), api.ErrValue, []int{0}},
		{nodes(nodes(a), z), api.ErrArgs, []int{0}},
		{nodes(nodes(a, z), wrong), api.ErrColumn, []int{0, 1}},
		{nodes(a, nodes(a, nodes(a, wrong), z)), api.ErrValue, []int{1, 1, 1}},
		{nodes(a, a, z), api.ErrColumn, []int{2}},
		{nodes(a, a, nodes(a)), api.ErrArgs, []int{2}},
		{nodes(a, a, a), api.ErrArgs, nil},
	} {
		refused(t, text(x.e), s, x.e, api.Fault{Err: x.err, Path: x.path})
	}
}

// An expression of MaxExprs nodes, and of more.
func TestTypeNodes(t *testing.T) {
	s := schemaOf(t, "a int8")
	one := lit(fieldOf(t, "x int8"), api.Value{Num: 1})
	deep, way := one, []int(nil)
	for range api.MaxExprs - 1 {
		deep, way = op(api.OpNeg, deep), append(way, 0)
	}
	typeIs(t, s, deep, "x int8", api.Fault{})
	refused(t, "deep", s, op(api.OpNeg, deep), api.Fault{Err: api.ErrExpr, Path: append(way, 0)})
	wide := op(api.OpAdd, slices.Repeat([]api.Expr{named("a")}, api.MaxExprs-1)...)
	refused(t, "wide", s, wide, api.Fault{Err: api.ErrArgs})
	if got := Columns(wide); !slices.Equal(got, []string{"a"}) {
		t.Errorf("Columns: %v", got)
	}
	for _, last := range []api.Expr{one, {Op: 99}} {
		more := op(api.OpAdd, append(slices.Clone(wide.Args), last)...)
		refused(t, "wider", s, more, api.Fault{Err: api.ErrExpr, Path: []int{api.MaxExprs - 1}})
		if text, e := Print(more); text != "" || e != api.ErrExpr {
			t.Errorf("Print: %s, %d", text, e)
		}
		if got := Columns(more); len(got) > 0 {
			t.Errorf("Columns: %v", got)
		}
	}
	// The first one that is none stands ahead of the one that is too many.
	early := op(api.OpAdd, append([]api.Expr{{Op: 99}}, wide.Args...)...)
	refused(t, "early", s, early, api.Fault{Err: api.ErrExpr, Path: []int{0}})
	two := op(api.OpAdd, op(api.OpAdd, wide.Args[:300]...), op(api.OpAdd, wide.Args[:300]...))
	refused(t, "two", s, two, api.Fault{Err: api.ErrExpr, Path: []int{1, api.MaxExprs - 303}})
	refused(t, "very wide", s, op(api.OpAdd, make([]api.Expr, 1<<14)...), api.Fault{Err: api.ErrExpr, Path: []int{0}})
	refused(t, "very wide columns", s, op(api.OpAdd, slices.Repeat([]api.Expr{named("a")}, 1<<14)...), api.Fault{Err: api.ErrExpr, Path: []int{511}})
}

// R1: what stands in itself is refused, too.
func TestRings(t *testing.T) {
	s := schemaOf(t, "a int8")
	ring := make([]api.Expr, 1)
	ring[0] = op(api.OpNeg, ring...)
	ring[0].Args = ring
	refused(t, "an expression in itself", s, ring[0], api.Fault{Err: api.ErrExpr, Path: make([]int, api.MaxExprs)})
	if text, e := Print(ring[0]); text != "" || e != api.ErrExpr {
		t.Errorf("Print: %s, %d", text, e)
	}
	if l := Columns(ring[0]); len(l) > 0 {
		t.Errorf("Columns: %v", l)
	}
	fields := make([]api.Field, 1)
	fields[0] = api.Field{Name: "l", Type: api.Type{Kind: api.List, Fields: fields}}
	refused(t, "a field in itself", s, lit(fields[0], api.Value{}), api.Fault{Err: api.ErrType})
	refused(t, "a field in itself", s, api.Expr{Op: api.OpCast, Field: fields[0]}, api.Fault{Err: api.ErrType})
	values := make([]api.Value, 1)
	values[0] = api.Value{List: values}
	f := fieldOf(t, "x list(i list(j int8))")
	refused(t, "a value in itself", s, lit(f, values[0]), api.Fault{Err: api.ErrValue})
	if text, e := Print(lit(f, values[0])); text != "" || e != api.ErrValue {
		t.Errorf("Print: %s, %d", text, e)
	}
}
