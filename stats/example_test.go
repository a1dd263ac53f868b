package stats

import (
	"bytes"
	"strings"
	"testing"

	"colonnade/api"
)

// bounds makes a stat with bounds.
func bounds(rows, nulls int, least, most api.Value) api.Stat {
	return api.Stat{Rows: rows, Nulls: nulls, Has: true, Least: least, Most: most}
}

// The chapter's first example.
func TestExamplesOf(t *testing.T) {
	a, f := strings.Repeat("a", 17), strings.Repeat("\xff", 17)
	for i, c := range []struct {
		field string
		l     []api.Value
		want  api.Stat
	}{
		{"n int8?", []api.Value{num(3), null, num(-1)}, bounds(3, 1, num(-1), num(3))},
		{"n int8?", []api.Value{null}, api.Stat{Rows: 1, Nulls: 1}},
		{"n list(i int8)", []api.Value{{List: []api.Value{num(1)}}}, api.Stat{Rows: 1}},
		{"n text", []api.Value{text("b"), text(a)}, bounds(2, 0, text(a[:16]), text("b"))},
		{"n bytes", []api.Value{text(f)}, api.Stat{Rows: 1}},
		{"n bytes", []api.Value{text(a[:15] + "\xff\xff")}, bounds(1, 0, text(a[:15]+"\xff"), text(a[:14]+"b"))},
	} {
		if x := statOfValues(t, fieldOf(t, c.field), c.l...); told(x) != told(c.want) {
			t.Errorf("%d: %s, not %s", i, told(x), told(c.want))
		}
	}
}

// The second one.
func TestExamplesMerge(t *testing.T) {
	f := fieldOf(t, "n int8?")
	x, y := bounds(3, 1, num(-1), num(3)), bounds(2, 0, num(5), num(9))
	for i, c := range []struct{ a, b, want api.Stat }{
		{x, y, bounds(5, 1, num(-1), num(9))},
		{x, api.Stat{Rows: 4, Nulls: 4}, bounds(7, 5, num(-1), num(3))},
		{x, api.Stat{Rows: 4, Nulls: 3}, api.Stat{Rows: 7, Nulls: 4}},
	} {
		for range 2 {
			m, e := Merge(f, c.a, c.b)
			if e != api.OK || told(m) != told(c.want) {
				t.Errorf("%d: %s, %d, not %s", i, told(m), e, told(c.want))
			}
			c.a, c.b = c.b, c.a
		}
	}
}

// The third and the fourth one.
func TestExamplesMay(t *testing.T) {
	s := schemaOf(t, "n int8")
	x, three := bounds(3, 0, num(-1), num(3)), bounds(3, 0, num(3), num(3))
	for _, c := range []struct {
		text string
		x    api.Stat
		want bool
	}{
		{"gt(n, lit(x int8 = 3))", x, false},
		{"ge(n, lit(x int8 = 3))", x, true},
		{"eq(n, lit(x int8 = 4))", x, false},
		{"ne(n, lit(x int8 = 3))", x, true},
		{"not(lt(n, lit(x int8 = 4)))", x, false},
		{"lt(n, lit(x int8 = 4))", x, true},
		{"or(gt(n, lit(x int8 = 3)), lt(n, lit(x int8 = 0)))", x, true},
		{"gt(add(n, lit(x int8 = 1)), lit(x int8 = 9))", x, true},
		{"isnull(n)", x, false},
		{"ne(n, lit(x int8 = 3))", three, false},
		{"lit(x bool = true)", api.Stat{}, false},
		{"ge(n, lit(x int8 = 3))", api.Stat{}, false},
		{"gt(add(n, lit(x int8 = 1)), lit(x int8 = 9))", api.Stat{}, false},
	} {
		may, e := May(s, exprOf(t, c.text), []api.Stat{c.x})
		if e != api.OK || may != c.want {
			t.Errorf("%s: %v, %d", c.text, may, e)
		}
	}
	if may, e := May(s, exprOf(t, "n"), []api.Stat{x}); e != api.ErrType || may {
		t.Errorf("a filter of kind Int8: %v, %d", may, e)
	}
}

// The fifth one.
func TestExamplesPut(t *testing.T) {
	s := schemaOf(t, "n int8?")
	b, e := Put(s, []api.Stat{bounds(3, 1, num(-1), num(3))})
	want := []byte{3, 0, 0, 0, 1, 0, 0, 0, 1, 255, 255, 255, 255, 255, 255, 255, 255, 3, 0, 0, 0, 0, 0, 0, 0}
	if e != api.OK || !bytes.Equal(b, want) {
		t.Errorf("%x, %d", b, e)
	}
}
