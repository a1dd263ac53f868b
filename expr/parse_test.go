package expr

import (
	"strings"
	"testing"

	"colonnade/api"
)

// What is put into texts.
var bits = []string{"(", ")", ",", ", ", " ", "[", "]", "{", "}", "\"", "\\", " = ", "=", "?", "a", "a, ", "x int8", "x  int8", "lit(", "cast(", "add(", "foo(", "lit", "0", "_", "-", "null", "\xff", "\n", "lit(x int8 = 1)", "lit(x text = \"),\\\"(\")", "cast(a, x bool)", "dict(0, int8, w text)", "struct(p int8, p int8)", "fixed(0)", "a_int8, b_text?"}

// hurtText changes a text at some places.
func (c *chance) hurtText(text string) string {
	for more := true; more; more = c.in(4) {
		at := c.Intn(len(text) + 1)
		to := min(len(text), at+c.Intn(4))
		switch c.Intn(5) {
		case 0:
			text = text[:at] + one(c, bits) + text[at:]
		case 1:
			text = text[:at] + one(c, bits) + text[to:]
		case 2:
			text = text[:at] + text[to:]
		case 3:
			text = text[:at]
		case 4:
			from := c.Intn(at + 1)
			text = text[:at] + text[from:]
		}
	}
	return text
}

// P22.1, P22.4: Parse answers as the chapter's words say, of texts that are right and of hurt ones; what it takes Print tells.
func TestParseIsItsModel(t *testing.T) {
	c := newChance(11)
	seen := map[api.Errno]int{}
	places := map[bool]int{}
	for i := range 24000 {
		text := "a"
		if _, _, e := c.typedOnesOrNot(t, 1+i%4); e.Op != 0 {
			text, _ = modelPrint(e)
		}
		if i%8 > 0 {
			text = c.hurtText(text)
		}
		got, x, at := Parse(text)
		want, y, place := modelParse(text)
		if x != y || at != place || !sameExpr(got, want) {
			t.Fatalf("Parse(%s): %+v, %d at %d, not %+v, %d at %d", text, got, x, at, want, y, place)
		}
		seen[x]++
		places[at == 0]++
		if x != api.OK {
			continue
		}
		if again, e := Print(got); e != api.OK || again != text {
			t.Fatalf("Print of %s: %s, %d", text, again, e)
		}
	}
	for e, least := range map[api.Errno]int{api.OK: 2000, api.ErrForm: 12000, api.ErrName: 1, api.ErrNull: 1} {
		if seen[e] < least {
			t.Errorf("the error %d came only %d times", e, seen[e])
		}
	}
	if places[false] < 6000 {
		t.Errorf("only %d places that are not 0", places[false])
	}
}

// typedOnesOrNot makes a schema and an expression that can be printed; or, now and then, none.
func (c *chance) typedOnesOrNot(t testing.TB, depth int) (api.Schema, api.Batch, api.Expr) {
	s, b, e := c.asked(t, 0, depth)
	if _, x := modelPrint(e); x != api.OK {
		return s, b, api.Expr{}
	}
	return s, b, e
}

// Each beginning of a text, and each text in which one byte is another one, is parsed as the model says.
func TestParseEachByte(t *testing.T) {
	for _, text := range []string{
		"if(gt(a, lit(x int64 = 0)), div(lit(x int64 = 6), a), lit(x int64 = -1))",
		"cast(add(a, b), c, x dict(0, int8, w choice(p int8, q text))?)",
		"lit(c struct(p list(i text)?, q bytes) = {p:[\"),(\\\"\",\"]}\"],q:x\"00\"})",
		"and(isnull(_a9), or(), cast(x int8))",
	} {
		parsed(t, text)
		for i := range len(text) {
			for _, x := range []string{"", "(", ")", ",", " ", "\"", "\\", "a", "0", "=", "]", "{", "?"} {
				for _, hurt := range []string{text[:i] + x + text[i+1:], text[:i] + x + text[i:], text[:i] + x} {
					got, e, at := Parse(hurt)
					if want, y, place := modelParse(hurt); e != y || at != place || !sameExpr(got, want) {
						t.Fatalf("Parse(%s): %+v, %d at %d, not %+v, %d at %d", hurt, got, e, at, want, y, place)
					}
				}
			}
		}
	}
}

// Where a node must stand.
func TestParseNode(t *testing.T) {
	name := strings.Repeat("n", api.MaxName)
	for text, want := range map[string]api.Expr{
		"a": named("a"), "_": named("_"), "A0_z": named("A0_z"), name: named(name),
		"lit": named("lit"), "cast": named("cast"), "add": named("add"), "if": named("if"), "null": named("null"),
		"add()": op(api.OpAdd), "isnull(lit)": op(api.OpIsNull, named("lit")), "neg(a, b, c)": op(api.OpNeg, named("a"), named("b"), named("c")),
		"cast(x int8)":           {Op: api.OpCast, Field: fieldOf(t, "x int8")},
		"cast(a, b, x int8?)":    {Op: api.OpCast, Field: fieldOf(t, "x int8?"), Args: []api.Expr{named("a"), named("b")}},
		"cast(cast, cast null?)": {Op: api.OpCast, Field: fieldOf(t, "cast null?"), Args: []api.Expr{named("cast")}},
	} {
		if got := parsed(t, text); !sameExpr(got, want) {
			t.Errorf("Parse(%s): %+v", text, got)
		}
		if got := printed(t, want); got != text {
			t.Errorf("Print: %s, not %s", got, text)
		}
	}
	for n, word := range strings.Fields(theWords) {
		if got := parsed(t, word+"(a)"); !sameExpr(got, op(n+1, named("a"))) {
			t.Errorf("Parse(%s(a)): %+v", word, got)
		}
	}
	for text, at := range map[string]int{
		"": 0, " a": 0, "0": 0, "9a": 0, "9a(b)": 0, "(a)": 0, "-": 0, "é": 0, name + "n": 0, name + "n(a)": 0, name + "(a)": 0,
		"Add(a)": 0, "null(a)": 0, "column(a)": 0, "literal(a)": 0, "lit2(a)": 0, "neg(foo(a))": 4, "neg(0)": 4, "add(a, foo(": 7,
		"a ": 1, "a,": 1, "a)": 1, "add (a)": 3, "neg(a) ": 6, "neg(a))": 6, "neg(a)(": 6,
	} {
		parseIs(t, text, api.ErrForm, at)
	}
}

// What stands between brackets.
func TestParseArgs(t *testing.T) {
	for text, at := range map[string]int{
		"add(": 4, "add( )": 4, "add(,": 4, "add(a": 5, "add(a ": 5, "add(a b)": 5, "add(a,": 6, "add(a,b)": 6, "add(a,)": 6, "add(a, ": 7, "add(a, )": 7, "add(a,  b)": 7, "add(a, , b)": 7, "add(a;b)": 5, "add(a]": 5,
		"cast()": 5, "cast(": 5, "cast( x int8)": 5, "cast(a)": 6, "cast(a": 6, "cast(a,": 7, "cast(a,x int8)": 7, "cast(a, )": 8, "cast(a, x)": 9, "cast(a, x": 9, "cast(a, x int8": 14, "cast(a, x int8, b)": 14, "cast(a, x int8]": 14, "cast(a, x int8))": 15,
		"cast(a, x int9)": 10, "cast(a b)": 7, "cast(a, x  int8)": 0, "cast(a, x int8 ?)": 0, "cast(a, x dict(0,int8, w text))": 0, "cast(a, x int8 )": 0, "cast(a, x list(i int8)": 22, "cast(a, x list(i int8))b": 23,
		"lit()": 5, "lit(": 4, "lit(x int8)": 11, "lit(x int8 =1)": 14, "lit(x int8= 1)": 14, "lit(x int8 = )": 13, "lit(x int8 = ": 13, "lit(x int8 = 1": 14, "lit(x int8 = 1, a)": 14, "lit(x int8 = 1 )": 14, "lit(x int8 =  1)": 13, "lit(x int9 = 1)": 6, "lit( = 1)": 4, "lit(x int8  = 1)": 0, "lit( x int8 = 1)": 0, "lit(x int8 = 01)": 13, "lit(x int8 = 1))": 15,
		`lit(x text = "a)`: 16, `lit(x text = "a\")`: 18, `lit(x text = "a\\")b`: 19, `lit(x text = "a""b")`: 16, `lit(x text = a)`: 13, `lit(x text = ")`: 15, `lit(x text = "\`: 14, `lit(x text = "\x7`: 14, `lit(x list(i int8) = [1,2)`: 25, `lit(x list(i int8) = [1,2]])`: 26, `lit(x list(i int8) = 1,2])`: 21, `lit(x list(i text) = ["]","[")`: 29,
		"lit(x int8 = ((1)": 13, "add(lit(x int8 = 1)": 19, "add(lit(x int8 = 1),a)": 20,
	} {
		parseIs(t, text, api.ErrForm, at)
	}
	for text, x := range map[string]struct {
		e  api.Errno
		at int
	}{
		"lit(0x int8 = 1)": {api.ErrName, 4}, "cast(a, 0x int8)": {api.ErrName, 8}, "lit(x null = null)": {api.ErrNull, 4}, "cast(a, x choice(p int8)?)": {api.ErrNull, 8},
		"cast(a, x struct(p int8, p int8))": {api.ErrTwice, 25}, "lit(x list(i dict(0, int8, w text?)) = [])": {api.ErrDict, 11}, "cast(a, x fixed(17))": {api.ErrKind, 8}, "lit(x fixed(0) = x\"\")": {api.ErrKind, 4},
		"cast(0 int8)": {api.ErrName, 5}, "add(b, cast(0 int8))": {api.ErrName, 12},
	} {
		parseIs(t, text, x.e, x.at)
	}
	parseIs(t, "lit(x list(n null?) = ["+strings.Repeat("null,", api.MaxRows)+"])", api.ErrRows, 23+5*api.MaxRows)
	parsed(t, "lit(x list(n null?) = ["+strings.Repeat("null,", api.MaxRows-1)+"null])")
}

// A text of MaxExprs nodes, and of one more.
func TestParseNodes(t *testing.T) {
	wide := "if(" + strings.Repeat("a, ", api.MaxExprs-2)
	deep := strings.Repeat("neg(", api.MaxExprs-1)
	shut := strings.Repeat(")", api.MaxExprs-1)
	for _, text := range []string{wide + "a)", deep + "a" + shut, deep + "neg()" + shut, deep + "lit(x int8 = 1)" + shut, deep + "cast(x int8)" + shut} {
		if e := parsed(t, text); len(above(e)) != api.MaxExprs || printed(t, e) != text {
			t.Errorf("Parse(%.20s..): %d nodes", text, len(above(e)))
		}
	}
	for _, behind := range []string{"a)", "", ")", "foo(", "lit(", " ", ",", "0", "x int8)", "\xff"} {
		parseIs(t, wide+"a, "+behind, api.ErrExpr, len(wide)+3)
		if behind != ")" {
			parseIs(t, deep+"neg("+behind, api.ErrExpr, len(deep)+4)
		}
		if behind != "x int8)" {
			parseIs(t, deep+"cast("+behind, api.ErrExpr, len(deep)+5)
		}
	}
	parseIs(t, wide+"a,", api.ErrForm, len(wide)+2)
	parseIs(t, wide+"a b", api.ErrForm, len(wide)+1)
	parseIs(t, deep+"cast(0 int8)", api.ErrName, len(deep)+5)
}

// A text of MaxText bytes, and of one more.
func TestParseLong(t *testing.T) {
	head, tail := `lit(x text = "`, `")`
	full := head + strings.Repeat("é", (api.MaxText-len(head)-len(tail))/2) + tail
	if len(full) != api.MaxText || printed(t, parsed(t, full)) != full {
		t.Errorf("a text of %d bytes", len(full))
	}
	parseIs(t, head+"a"+full[len(head):], api.ErrBytes, 0)
	parseIs(t, strings.Repeat("(", api.MaxText+1), api.ErrBytes, 0)
	parseIs(t, strings.Repeat("(", api.MaxText), api.ErrForm, 0)
	parseIs(t, full[:api.MaxText-1], api.ErrForm, api.MaxText-1)
	parseIs(t, "cast(a, x "+strings.Repeat("(", api.MaxText-10), api.ErrForm, 10)
}
