package match

import (
	"fmt"
	"strings"
	"testing"

	"colonnade/api"
)

// keyed asks for the schema of joins by the first column of both, which is given as text.
func keyed(t testing.TB, join int, left, right string) ask {
	t.Helper()
	return onFirst(join, side{s: schemaOf(t, left)}, side{s: schemaOf(t, right)})
}

// P21.1, P21.2: which keys' types are unlike.
func TestUnlike(t *testing.T) {
	for _, x := range []struct {
		left, right string
		want        api.Errno
	}{
		{"a int8", "b int8?", api.OK}, {"a int8", "b int16", api.ErrUnlike}, {"a int8", "b uint8", api.ErrUnlike}, {"a text", "b bytes", api.ErrUnlike},
		{"a null?", "b int8?", api.ErrUnlike}, {"a bool", "b int8", api.ErrUnlike}, {"a float64", "b int64", api.ErrUnlike},
		{"a fixed(2)", "b fixed(3)", api.ErrUnlike}, {"a fixed(2)", "b fixed(2)?", api.OK}, {"a fixed(2)", "b bytes", api.ErrUnlike},
		{"a span(2, i int8)", "b span(3, i int8)", api.ErrUnlike}, {"a span(2, i int8)", "b list(i int8)", api.ErrUnlike},
		{"a list(i int8)", "b list(j int8)", api.ErrUnlike}, {"a list(i int8)", "b list(i int8?)", api.ErrUnlike}, {"a list(i int8)", "b list(i int16)", api.ErrUnlike},
		{"a struct(x int8, y text)", "b struct(x int8, y text)?", api.OK}, {"a struct(x int8, y text)", "b struct(y text, x int8)", api.ErrUnlike},
		{"a struct(x int8, y text)", "b struct(x int8)", api.ErrUnlike}, {"a struct(x int8)", "b struct(x int8, y text)", api.ErrUnlike}, {"a struct()", "b struct()", api.OK},
		{"a struct(x int8, y text)", "b struct(x int8, z text)", api.ErrUnlike}, {"a struct(x int8)", "b choice(x int8)", api.ErrUnlike},
		{"a choice(x int8, y text)", "b choice(x int8, y text)", api.OK}, {"a choice(x int8, y text)", "b choice(x int8, y text?)", api.ErrUnlike},
		{"a dict(0, int8, w text)", "b text", api.OK}, {"a dict(0, int8, w text)", "b dict(7, uint64, v text)?", api.OK}, {"a dict(0, int8, w text)", "b dict(0, int8, w bytes)", api.ErrUnlike},
		{"a runs(v text?)?", "b text", api.OK}, {"a runs(v dict(0, int8, w text)?)?", "b runs(r text)", api.OK}, {"a runs(v text)", "b runs(v int8)", api.ErrUnlike},
		{"a list(i dict(0, int8, w text)?)", "b list(i text?)", api.OK}, {"a list(i dict(0, int8, w text)?)", "b list(i text)", api.ErrUnlike}, {"a list(i dict(0, int8, w text))", "b list(w text)", api.ErrUnlike},
		{"a list(i runs(v int8?)?)", "b list(i int8?)", api.OK}, {"a list(i runs(v int8?)?)", "b list(v int8?)", api.ErrUnlike}, {"a list(i runs(v int8))", "b list(i int8?)", api.ErrUnlike},
		{"a struct(x list(i dict(0, int8, w struct(y int8?))))", "b runs(r struct(x list(i runs(z struct(y int8?)))))", api.OK},
		{"a struct(x list(i dict(0, int8, w struct(y int8?))))", "b runs(r struct(x list(i runs(z struct(y int8)))))", api.ErrUnlike},
		// A Nullable Choice within can't be a field of an array, but is held against another one likewise.
		{"a list(i dict(0, int8, w choice(x int8))?)", "b list(i dict(3, int16, w choice(x int8))?)", api.OK},
		{"a list(i dict(0, int8, w choice(x int8))?)", "b list(i choice(x int8))", api.ErrUnlike},
		{"a list(i dict(0, int8, w choice(x int8))?)", "b list(i dict(3, int16, w choice(x int16))?)", api.ErrUnlike},
		{"a dict(0, int8, w choice(x int8))?", "b choice(x int8)", api.OK},
	} {
		for _, join := range []int{api.JoinSemi, api.JoinAnti} {
			a := keyed(t, join, x.left, x.right)
			if got := a.modelKeys(); got != x.want {
				t.Errorf("the model, %s, %s: %d", x.left, x.right, got)
			}
			if x.want == api.OK {
				holdsType(t, x.left, a, a.l.s, api.OK)
				continue
			}
			holdsType(t, x.left, a, api.Schema{}, x.want)
		}
		for _, join := range joins[:3] {
			a := keyed(t, join, x.left, x.right)
			want, e := a.modelType()
			holdsType(t, x.left, a, want, e)
			a = keyed(t, join, x.right, x.left)
			want, e = a.modelType()
			holdsType(t, x.left, a, want, e)
		}
	}
	// Of several keys the second one counts as well.
	a := keyed(t, api.JoinInner, "a int8, b text", "c int8, d bytes")
	a.k1, a.k2 = []int{0, 1}, []int{0, 1}
	holdsType(t, "the second key", a, api.Schema{}, api.ErrUnlike)
}

// P21.2: the fields of each kind of join: bare, or as they are; Nullable, or not.
func TestFields(t *testing.T) {
	left := `k dict(0, int8, w text), a runs(v int8), b list(i dict(1, uint8, w text)?), c text? | "n" "left"`
	right := `d dict(0, int8, w text), k2 text?, e span(2, i runs(v bool)), f choice(x int8) | "n" "right"`
	for join, want := range map[int]string{
		api.JoinInner: "k text, a int8, b list(i text?), c text?, d text, e span(2, i bool), f choice(x int8)",
		api.JoinSemi:  "k dict(0, int8, w text), a runs(v int8), b list(i dict(1, uint8, w text)?), c text?",
		api.JoinAnti:  "k dict(0, int8, w text), a runs(v int8), b list(i dict(1, uint8, w text)?), c text?",
	} {
		a := ask{join, side{s: schemaOf(t, left)}, side{s: schemaOf(t, right)}, []int{0}, []int{1}}
		holdsType(t, "fields", a, schemaOf(t, want), api.OK)
	}
	// The Choice would have to be Nullable.
	for _, join := range []int{api.JoinLeft, api.JoinFull} {
		a := ask{join, side{s: schemaOf(t, left)}, side{s: schemaOf(t, right)}, []int{0}, []int{1}}
		holdsType(t, "a Choice", a, api.Schema{}, api.ErrNull)
		a.r.s.Fields = a.r.s.Fields[:3]
		holdsType(t, "no Choice", a, schemaOf(t, map[int]string{
			api.JoinLeft: "k text, a int8, b list(i text?), c text?, d text?, e span(2, i bool)?",
			api.JoinFull: "k text?, a int8?, b list(i text?)?, c text?, d text?, e span(2, i bool)?",
		}[join]), api.OK)
	}
}

// P21.2: a key is Nullable in a JoinFull, if one of its two fields is; else as the left one is.
func TestNullableKeys(t *testing.T) {
	for _, x := range [][]string{
		{"k int8", "q int8", "k int8", "k int8", "k int8"},
		{"k int8?", "q int8", "k int8?", "k int8?", "k int8?"},
		{"k int8", "q int8?", "k int8", "k int8", "k int8?"},
		{"k int8?", "q int8?", "k int8?", "k int8?", "k int8?"},
		{"k runs(v int8?)?", "q dict(0, int8, w int8)", "k int8?", "k int8?", "k int8?"},
		{"k dict(0, int8, w int8)", "q runs(v int8?)?", "k int8", "k int8", "k int8?"},
		{"k null?", "q null?", "k null?", "k null?", "k null?"},
		{"k choice(x int8)", "q choice(x int8)", "k choice(x int8)", "k choice(x int8)", "k choice(x int8)"},
	} {
		for i, join := range joins[:3] {
			holdsType(t, x[0], keyed(t, join, x[0], x[1]), schemaOf(t, x[2+i]), api.OK)
		}
	}
}

// P21.2: the key's column stands where the left one stands, the right one's is left out, wherever they stand.
func TestPlacesOfKeys(t *testing.T) {
	a := ask{api.JoinInner, side{s: schemaOf(t, "a int8, k text, b bool, l int8")}, side{s: schemaOf(t, "k2 text, c int8, l2 int8, d bool")}, []int{3, 1}, []int{2, 0}}
	holdsType(t, "places", a, schemaOf(t, "a int8, k text, b bool, l int8, c int8, d bool"), api.OK)
	a.k1, a.k2 = []int{0, 2}, []int{1, 3}
	holdsType(t, "places", a, schemaOf(t, "a int8, k text, b bool, l int8, k2 text, l2 int8"), api.OK)
}

// P21.2: schemas that may not be: kind.Check's errors, the first one.
func TestNoSchema(t *testing.T) {
	many := func(n int, f string) string {
		var l []string
		for i := range n {
			l = append(l, fmt.Sprintf(f, i))
		}
		return strings.Join(l, ", ")
	}
	wide := func(name string) string { return name + " struct(" + many(31, "f%d int8") + ")" }
	for _, x := range []struct {
		left, right       string
		inner, outer, all api.Errno
	}{
		{"k int8, a int8", "q int8, a int8", api.ErrTwice, api.ErrTwice, api.ErrTwice},
		{"k int8, a int8", "q int8, k text", api.ErrTwice, api.ErrTwice, api.ErrTwice},
		{"k int8, a int8", "a int8, k2 text", api.OK, api.OK, api.OK},
		{"k int8", "q int8, c choice(x int8)", api.OK, api.ErrNull, api.ErrNull},
		{"k int8, c choice(x int8)", "q int8", api.OK, api.OK, api.ErrNull},
		{"k choice(x int8)", "q choice(x int8)", api.OK, api.OK, api.OK},
		{"k choice(x int8)", "q dict(0, int8, w choice(x int8))?", api.OK, api.OK, api.ErrNull},
		{"k dict(0, int8, w choice(x int8))?", "q choice(x int8)", api.ErrNull, api.ErrNull, api.ErrNull},
		{"k dict(0, int8, w choice(x int8))", "q choice(x int8)", api.OK, api.OK, api.OK},
		{"k int8, a list(i dict(0, int8, w choice(x int8))?)", "q int8", api.ErrNull, api.ErrNull, api.ErrNull},
		{"k int8, a dict(0, int8, w choice(x int8))", "q int8", api.OK, api.OK, api.ErrNull},
		{"k int8", "q int8, a dict(0, int8, w choice(x int8))?", api.ErrNull, api.ErrNull, api.ErrNull},
		{"k int8, c choice(x int8), a int8", "q int8, a int8", api.ErrTwice, api.ErrTwice, api.ErrNull},
		{"k int8, a int8", "q int8, a int8, c choice(x int8)", api.ErrTwice, api.ErrTwice, api.ErrTwice},
		{"k int8, a int8", "q int8, c choice(x int8), a int8", api.ErrTwice, api.ErrNull, api.ErrNull},
		{"k int8, " + many(16, "a%d int8"), "q int8, " + many(15, "b%d int8"), api.OK, api.OK, api.OK},
		{"k int8, " + many(16, "a%d int8"), "q int8, " + many(16, "b%d int8"), api.ErrMany, api.ErrMany, api.ErrMany},
		{"k int8, " + many(16, "a%d int8"), "q int8, " + many(16, "a%d int8"), api.ErrMany, api.ErrMany, api.ErrMany},
		{"k int8, " + wide("a") + ", " + wide("b") + ", " + wide("c") + ", " + wide("d"), "q int8, " + wide("e") + ", " + wide("f") + ", " + wide("g"), api.OK, api.OK, api.OK},
		{"k int8, " + wide("a") + ", " + wide("b") + ", " + wide("c") + ", " + wide("d"), "q int8, " + wide("e") + ", " + wide("f") + ", " + wide("g") + ", h struct(" + many(30, "f%d int8") + ")", api.OK, api.OK, api.OK},
		{"k int8, " + wide("a") + ", " + wide("b") + ", " + wide("c") + ", " + wide("d"), "q int8, " + wide("e") + ", " + wide("f") + ", " + wide("g") + ", " + wide("h"), api.ErrMany, api.ErrMany, api.ErrMany},
		// Bare, there are fewer fields in all.
		{"k int8, " + wide("a") + ", " + wide("b") + ", " + wide("c") + ", " + wide("d"), "q int8, " + wide("e") + ", " + wide("f") + ", " + wide("g") + ", h runs(s struct(" + many(30, "f%d int8") + "))", api.OK, api.OK, api.OK},
	} {
		for i, want := range []api.Errno{x.inner, x.outer, x.all} {
			a := keyed(t, joins[i], x.left, x.right)
			s, e := a.modelType()
			if e != want {
				t.Errorf("the model, %s, %s, join %d: %d, not %d", x.left, x.right, joins[i], e, want)
			}
			holdsType(t, x.left, a, s, want)
		}
		for _, join := range joins[3:] {
			a := keyed(t, join, x.left, x.right)
			holdsType(t, x.left, a, a.l.s, api.OK)
		}
	}
}

// P21.2: any schemas; batches have no say.
func TestAnyTypes(t *testing.T) {
	c := newChance(22)
	told := map[api.Errno]int{}
	for range 6000 {
		a := c.ask(t, 0)
		a.l.b, a.r.b = api.Batch{Rows: -1}, api.Batch{Rows: 9}
		if c.in(3) {
			c.hurt(&a.r.s.Fields[c.Intn(len(a.r.s.Fields))])
		}
		if c.in(9) {
			a.k1 = append(a.k1, c.Intn(5)-1)
			a.k2 = append(a.k2, c.Intn(5)-1)
		}
		if c.in(30) {
			a.join = c.Intn(9) - 1
		}
		want, e := a.modelType()
		holdsType(t, "any", a, want, e)
		told[e]++
	}
	for _, e := range []api.Errno{api.OK, api.ErrType, api.ErrArg, api.ErrKey, api.ErrUnlike, api.ErrTwice, api.ErrNull} {
		if told[e] < 50 {
			t.Errorf("the error %d came only %d times", e, told[e])
		}
	}
}
