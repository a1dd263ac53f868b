package expr

import (
	"strings"
	"testing"

	"colonnade/api"
)

// P22.1: what Print refuses: of the nodes from above the first one that is wrong, behind what may not be at all, ahead of what is too long.
func TestPrintRefuses(t *testing.T) {
	good := fieldOf(t, "x int8")
	bad := good
	bad.Type.ID = 1
	typeless, wrong := lit(bad, api.Value{Num: 300}), lit(good, api.Value{Num: 300})
	long := lit(fieldOf(t, "x text"), textOf(api.MaxText))
	badCast := func(args ...api.Expr) api.Expr { return api.Expr{Op: api.OpCast, Field: bad, Args: args} }
	nodes := func(l ...api.Expr) api.Expr { return op(api.OpAdd, l...) }
	for i, x := range []struct {
		e    api.Expr
		want api.Errno
	}{
		{api.Expr{}, api.ErrExpr}, {nodes(typeless, long, wrong, api.Expr{Op: 99}), api.ErrExpr}, {nodes(wrong, named("")), api.ErrExpr},
		{typeless, api.ErrType}, {wrong, api.ErrValue}, {badCast(), api.ErrType}, {lit(api.Field{}, null), api.ErrType}, {lit(good, null), api.ErrValue},
		{nodes(wrong, typeless), api.ErrValue}, {nodes(typeless, wrong), api.ErrType}, {nodes(nodes(long, wrong), typeless), api.ErrValue}, {nodes(long, badCast(wrong)), api.ErrType}, {badCast(wrong), api.ErrType},
		{nodes(nodes(named("a"), wrong), badCast()), api.ErrValue}, {nodes(long, long, wrong), api.ErrValue}, {nodes(long, typeless), api.ErrType},
		{long, api.ErrBytes}, {nodes(long, named("z")), api.ErrBytes}, {lit(fieldOf(t, "x list(i int8)"), api.Value{List: make([]api.Value, 4097)}), api.ErrValue},
		{lit(fieldOf(t, "x bytes"), textOf(api.MaxText/2)), api.ErrBytes},
	} {
		if text, e := Print(x.e); e != x.want || text != "" {
			t.Errorf("%d: %.20s, %d, not %d", i, text, e, x.want)
		}
	}
	// What has no type has a text.
	for text, e := range map[string]api.Expr{
		"add()": op(api.OpAdd), "not(a, b)": op(api.OpNot, named("a"), named("b")), "cast(x int8)": {Op: api.OpCast, Field: good}, "cast(lit(x int8 = 1), x null?)": {Op: api.OpCast, Field: fieldOf(t, "x null?"), Args: []api.Expr{lit(good, truth)}},
		"if(lit(d dict(31, uint64, w list(c choice(a int8, b text)))? = [b(\"), \\\"\"),a(-1)]))": op(api.OpIf, lit(fieldOf(t, "d dict(31, uint64, w list(c choice(a int8, b text)))?"), api.Value{List: []api.Value{{Num: 1, List: []api.Value{{Text: "), \""}}}, {List: nums(-1)}}})),
	} {
		if got := printed(t, e); got != text {
			t.Errorf("Print: %s, not %s", got, text)
		}
		if !sameExpr(parsed(t, text), e) {
			t.Errorf("Parse of %s", text)
		}
	}
}

// A text may have MaxText bytes and not one more, wherever they come from.
func TestPrintLong(t *testing.T) {
	f := fieldOf(t, "x text")
	full := func(more int, around string) api.Expr {
		return lit(f, textOf(api.MaxText-len(around)-len(`lit(x text = "")`)+more))
	}
	name := strings.Repeat("n", api.MaxName)
	for more, want := range map[int]api.Errno{-1: api.OK, 0: api.OK, 1: api.ErrBytes, 2: api.ErrBytes, 50: api.ErrBytes} {
		for around, e := range map[string]api.Expr{
			"":                           full(more, ""),
			"neg()":                      op(api.OpNeg, full(more, "neg()")),
			"add(, " + name + ")":        op(api.OpAdd, full(more, "add(, "+name+")"), named(name)),
			"add(" + name + ", )":        op(api.OpAdd, named(name), full(more, "add("+name+", )")),
			"cast(, x int8)":             {Op: api.OpCast, Field: fieldOf(t, "x int8"), Args: []api.Expr{full(more, "cast(, x int8)")}},
			"cast(, " + name + " null?)": {Op: api.OpCast, Field: fieldOf(t, name+" null?"), Args: []api.Expr{full(more, "cast(, "+name+" null?)")}},
		} {
			text, got := Print(e)
			if got != want || got == api.OK && len(text) != api.MaxText+more || got != api.OK && text != "" {
				t.Errorf("%s, %d more: %d bytes, %d", around, more, len(text), got)
			}
			if got == api.OK && !sameExpr(parsed(t, text), e) {
				t.Errorf("Parse of %s", around)
			}
		}
	}
}
