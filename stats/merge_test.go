package stats

import (
	"fmt"
	"strings"
	"testing"

	"colonnade/api"
)

// P23.2: whatever the field and the stats, wrong ones too.
func TestMerge(t *testing.T) {
	c := newChance(5)
	count := map[string]int{}
	for range 30000 {
		f := c.field(t, "a")
		a, b := c.stat(f), c.stat(f)
		for c.in(4) {
			c.hurtStat(one(c, []*api.Stat{&a, &b}))
		}
		want, err := modelMerge(f, a, b)
		x, e := Merge(f, a, b)
		same(t, told(a)+"; "+told(b), x, e, want, err)
		y, e := Merge(f, b, a)
		same(t, "the other way round: "+told(a)+"; "+told(b), y, e, want, err)
		count[fmt.Sprint(int(err), want.Has, a.Has, b.Has)]++
	}
	for _, what := range []string{"0 true true true", "0 true true false", "0 true false true", "0 false false false", "0 false true false", "0 false false true", "7 false true true", "3 false true true", "3 false false false"} {
		if count[what] < 100 {
			t.Errorf("%s: only %d", what, count[what])
		}
	}
}

// P23.2: a field that may not be, then a stat that is none, then too many rows.
func TestMergeWrong(t *testing.T) {
	many, none := api.Stat{Rows: 1048576}, api.Stat{Rows: -1}
	for _, f := range notFields(t) {
		for _, x := range []api.Stat{{}, many, none} {
			m, e := Merge(f, x, many)
			same(t, told(x), m, e, api.Stat{}, api.ErrType)
		}
	}
	f := fieldOf(t, "a int8")
	one := api.Stat{Rows: 1}
	for _, c := range []struct {
		a, b api.Stat
		err  api.Errno
	}{
		{none, many, api.ErrValue}, {many, none, api.ErrValue}, {api.Stat{Rows: 1048577}, one, api.ErrValue},
		{many, one, api.ErrRows}, {one, many, api.ErrRows}, {many, many, api.ErrRows}, {api.Stat{Rows: 1048576, Nulls: 1048576}, one, api.ErrRows},
	} {
		m, e := Merge(f, c.a, c.b)
		same(t, told(c.a)+"; "+told(c.b), m, e, api.Stat{}, c.err)
	}
	m, e := Merge(f, api.Stat{Rows: 1048575, Nulls: 5}, one)
	same(t, "just as many rows as may be", m, e, api.Stat{Rows: 1048576, Nulls: 5}, api.OK)
	m, e = Merge(f, many, api.Stat{})
	same(t, "no rows more", m, e, many, api.OK)
}

// P23.2: all ways of being null, of having bounds, and none.
func TestMergeNulls(t *testing.T) {
	f := fieldOf(t, "a text?")
	x, y := bounds(2, 1, text("b"), text("d")), bounds(2, 0, text("c"), text("e"))
	blank, nulls, none := api.Stat{Rows: 3, Nulls: 2}, api.Stat{Rows: 3, Nulls: 3}, api.Stat{}
	for i, c := range []struct{ a, b, want api.Stat }{
		{x, y, bounds(4, 1, text("b"), text("e"))},
		{x, x, bounds(4, 2, text("b"), text("d"))},
		{x, nulls, bounds(5, 4, text("b"), text("d"))},
		{x, none, x},
		{x, blank, api.Stat{Rows: 5, Nulls: 3}},
		{blank, blank, api.Stat{Rows: 6, Nulls: 4}},
		{blank, nulls, api.Stat{Rows: 6, Nulls: 5}},
		{blank, none, blank},
		{nulls, nulls, api.Stat{Rows: 6, Nulls: 6}},
		{nulls, none, nulls},
		{none, none, none},
	} {
		m, e := Merge(f, c.a, c.b)
		same(t, fmt.Sprint(i), m, e, c.want, api.OK)
		m, e = Merge(f, c.b, c.a)
		same(t, fmt.Sprint(i, " the other way round"), m, e, c.want, api.OK)
	}
}

// P23.2: bounds stand in the order of the plain kind, of texts byte by byte, whatever the bytes.
func TestMergeOrder(t *testing.T) {
	for _, c := range []struct {
		field                string
		a, b, c, d, low, top api.Value
	}{
		{"a uint64", num(3), num(-1), num(1), num(1<<63 - 1), num(1), num(-1)},
		{"a float64", num(-1 << 63), num(1), num(-1), num(0), num(-1), num(1)},
		{"a text", text("\xc3"), text("\xc4"), text("\xff"), text("\xff\xff"), text("\xc3"), text("\xff\xff")},
		{"a fixed(2)", text("b"), text("bbb"), text(""), text("bb"), text(""), text("bbb")},
		{"a dict(0, int8, w int8)", num(-3), num(0), num(-5), num(-4), num(-5), num(0)},
		{"a runs(v bytes)", text("a"), text("b"), text("a\x00"), text("b\x00"), text("a"), text("b\x00")},
	} {
		m, e := Merge(fieldOf(t, c.field), bounds(1, 0, c.a, c.b), bounds(1, 0, c.c, c.d))
		same(t, c.field, m, e, bounds(2, 0, c.low, c.top), api.OK)
	}
}

// What a stat may be: each call that takes one takes these, and none of the others.
func TestStat(t *testing.T) {
	a := strings.Repeat("\xff", 17)
	list := api.Value{List: []api.Value{{}}}
	right := map[string][]api.Stat{
		"n int8":                  {{}, {Rows: 1048576}, {Rows: 1048576, Nulls: 1048576}, {Rows: 1, Nulls: 1}, bounds(2, 1, num(-128), num(127)), bounds(1, 0, num(5), num(5)), {Rows: 1, Least: api.Value{List: []api.Value{}}}},
		"n bool?":                 {{Rows: 2, Nulls: 1}, bounds(1, 0, num(0), num(1)), bounds(1, 0, num(1), num(1))},
		"n uint64":                {bounds(1, 0, num(0), num(-1)), bounds(1, 0, num(1<<63-1), num(-1<<63))},
		"n float64":               {bounds(1, 0, num(-1), num(1<<63-1)), bounds(1, 0, num(-1<<63), num(0))},
		"n text":                  {bounds(1, 0, text(""), text("")), bounds(1, 0, text("\xff"), text(a[:16])), bounds(1, 0, text(""), text("\xc3"))},
		"n fixed(2)":              {bounds(1, 0, text(""), text("a")), bounds(1, 0, text("a"), text(a[:16]))},
		"n list(i int8)":          {{Rows: 1}, {Rows: 2, Nulls: 2}},
		"n null?":                 {{Rows: 1, Nulls: 1}, {Rows: 1}},
		"n dict(0, int8, w bool)": {bounds(1, 0, num(0), num(1))},
		"n runs(v text?)?":        {bounds(1, 0, text("a"), text("b")), {Rows: 1, Least: api.Value{List: []api.Value{}}, Most: api.Value{List: []api.Value{}}}},
	}
	wrong := map[string][]api.Stat{
		"n int8": {
			{Rows: -1}, {Rows: 1048577}, {Rows: 1, Nulls: 2}, {Rows: 1, Nulls: -1}, {Rows: 1, Least: num(1)}, {Rows: 1, Most: num(1)}, {Rows: 1, Least: null}, {Rows: 1, Most: text("a")}, {Rows: 1, Most: list},
			bounds(0, 0, num(0), num(0)), bounds(1, 1, num(0), num(0)), bounds(1, 0, num(-129), num(0)), bounds(1, 0, num(0), num(128)), bounds(1, 0, num(1), num(0)),
			bounds(1, 0, null, num(0)), bounds(1, 0, num(0), null), bounds(1, 0, list, num(0)), bounds(1, 0, num(0), list), bounds(1, 0, num(0), api.Value{Num: 1, Text: "a"}), bounds(1, 0, api.Value{Text: "a"}, num(0)), bounds(1, 0, num(0), api.Value{Null: true, Num: 1}),
		},
		"n bool?":                         {bounds(1, 0, num(0), num(2)), bounds(1, 0, num(-1), num(1)), bounds(1, 0, num(1), num(0))},
		"n uint8":                         {bounds(1, 0, num(-1), num(0)), bounds(1, 0, num(0), num(256))},
		"n uint64":                        {bounds(1, 0, num(-1), num(0))},
		"n float64":                       {bounds(1, 0, num(0), num(-1<<63))},
		"n text":                          {bounds(1, 0, text("b"), text("a")), bounds(1, 0, text("a"), text(a)), bounds(1, 0, text(a), text(a)), bounds(1, 0, num(1), text("a")), bounds(1, 0, text("a"), api.Value{Num: 1, Text: "b"}), bounds(1, 0, text(""), list)},
		"n fixed(2)":                      {bounds(1, 0, text(""), text(a)), bounds(1, 0, text("ab"), text("a"))},
		"n list(i int8)":                  {bounds(1, 0, api.Value{}, api.Value{}), bounds(1, 0, list, list)},
		"n null?":                         {bounds(1, 0, api.Value{}, api.Value{}), bounds(1, 0, null, null)},
		"n struct()":                      {bounds(1, 0, api.Value{}, api.Value{})},
		"n choice(a int8)":                {bounds(1, 0, api.Value{}, api.Value{})},
		"n dict(0, int8, w bool)":         {bounds(1, 0, num(0), num(2))},
		"n dict(0, int8, w list(i int8))": {bounds(1, 0, api.Value{}, api.Value{})},
		"n runs(v text?)?":                {bounds(1, 0, num(1), num(1))},
	}
	for text, l := range right {
		for _, x := range l {
			takes(t, text, x, api.OK)
		}
	}
	for text, l := range wrong {
		for _, x := range l {
			takes(t, text, x, api.ErrValue)
		}
	}
}

// takes holds what each call that takes a stat answers to it against an error.
func takes(t *testing.T, field string, x api.Stat, want api.Errno) {
	t.Helper()
	f := fieldOf(t, field)
	s := api.Schema{Fields: []api.Field{f}}
	_, e1 := Merge(f, x, api.Stat{})
	_, e2 := Merge(f, api.Stat{}, x)
	_, e3 := Put(s, []api.Stat{x})
	_, e4 := May(s, exprOf(t, "lit(x bool = true)"), []api.Stat{x})
	if e1 != want || e2 != want || e3 != want || e4 != want {
		t.Errorf("%s, %s: %d %d %d %d, not %d", field, told(x), e1, e2, e3, e4, want)
	}
	if is := modelIsStat(f, x); is != (want == api.OK) {
		t.Errorf("%s, %s: the model says %v", field, told(x), is)
	}
}
