package value

import (
	"slices"
	"strings"
	"testing"

	"colonnade/api"
	"colonnade/kind"
)

// P4.1: each kind's edges.
func TestFitsNumbers(t *testing.T) {
	edges := []int64{0, 1, -1, 2, -2}
	for b := range 64 {
		edges = append(edges, 1<<b, 1<<b-1, -1<<b, -1<<b-1, 1<<b+1)
	}
	for k := api.Bool; k <= api.Float64; k++ {
		for _, n := range edges {
			want := api.ErrValue
			if k == api.Float64 || modelRange(k, modelNumber(k, n)) {
				want = api.OK
			}
			if got := Fits(plain("a", k), num(n)); got != want {
				t.Errorf("Fits(kind %d, %d) = %d, want %d", k, n, got, want)
			}
		}
	}
}

// P4.1: what a value of each kind has beside what it may not have.
func TestFitsTable(t *testing.T) {
	i8 := plain("i", api.Int8)
	for k := api.Null; k <= api.Runs; k++ {
		var f api.Field
		var v api.Value
		switch k {
		case api.Null:
			f, v = maybe(plain("a", k)), null
		case api.Text, api.Bytes:
			f, v = plain("a", k), text("é")
		case api.Fixed:
			f, v = wide("a", k, 2), text("\xff\x00")
		case api.List:
			f, v = with("a", k, i8), list(num(1), num(-128))
		case api.Span:
			f, v = wide("a", k, 2, i8), list(num(1), num(127))
		case api.Struct:
			f, v = with("a", k, i8, plain("t", api.Text)), list(num(1), text("a"))
		case api.Choice:
			f, v = with("a", k, i8, plain("t", api.Text)), chosen(1, text("a"))
		case api.Dict:
			f, v = dict("a", i8), num(5)
		case api.Runs:
			f, v = with("a", k, i8), num(5)
		default:
			f, v = plain("a", k), num(1)
		}
		if e := Fits(f, v); e != api.OK {
			t.Errorf("kind %d: %d", k, e)
		}
		for n, x := range []api.Value{{Null: !v.Null, Num: v.Num, Text: v.Text, List: v.List}, {Null: true, Num: 1}, {Null: true, Text: "a"}, {Null: true, List: make([]api.Value, 1)}} {
			if e := Fits(f, x); e != api.ErrValue {
				t.Errorf("kind %d, null %d: %d", k, n, e)
			}
		}
		if more := v; k != api.Text && k != api.Bytes {
			more.Text += "a"
			if e := Fits(f, more); e != api.ErrValue {
				t.Errorf("kind %d, with a text: %d", k, e)
			}
		}
		if more := v; k != api.List {
			more.List = append(slices.Clone(v.List), num(0))
			if e := Fits(f, more); e != api.ErrValue {
				t.Errorf("kind %d, with a value more: %d", k, e)
			}
		}
		if more := v; len(v.List) == 0 {
			more.List = []api.Value{}
			if e := Fits(f, more); e != api.OK {
				t.Errorf("kind %d, with a list of none: %d", k, e)
			}
		} else {
			more.Num += 2
			if e := Fits(f, more); e != api.ErrValue {
				t.Errorf("kind %d, with another Num: %d", k, e)
			}
		}
	}
}

// P4.1: where a null fits.
func TestFitsNull(t *testing.T) {
	i8 := plain("i", api.Int8)
	c := with("c", api.Choice, maybe(i8))
	for _, x := range []struct {
		f    api.Field
		want api.Errno
	}{
		{i8, api.ErrValue}, {maybe(i8), api.OK}, {maybe(plain("n", api.Null)), api.OK},
		{maybe(plain("t", api.Text)), api.OK}, {maybe(wide("x", api.Fixed, 3)), api.OK},
		{maybe(with("l", api.List, i8)), api.OK}, {with("l", api.List, maybe(i8)), api.ErrValue},
		{maybe(wide("s", api.Span, 2, i8)), api.OK}, {maybe(with("s", api.Struct)), api.OK}, {with("s", api.Struct), api.ErrValue},
		{c, api.ErrValue}, {with("r", api.Runs, c), api.ErrValue}, {maybe(dict("d", c)), api.OK}, {dict("d", c), api.ErrValue},
		{with("r", api.Runs, i8), api.ErrValue}, {maybe(with("r", api.Runs, maybe(i8))), api.OK},
		{maybe(with("r", api.Runs, maybe(dict("d", c)))), api.OK},
		{maybe(with("r", api.Runs, maybe(with("r", api.Runs, maybe(plain("n", api.Null)))))), api.OK},
	} {
		if got := Fits(x.f, null); got != x.want {
			t.Errorf("Fits(%v, null) = %d, want %d", x.f, got, x.want)
		}
		if want := api.Errno(0); modelFits(x.f, null) != (x.want == want) {
			t.Errorf("the model on %v", x.f)
		}
	}
	if e := Fits(c, chosen(0, null)); e != api.OK {
		t.Errorf("a choice of a null: %d", e)
	}
}

// P4.1: right UTF-8, at each edge of the chapter's table.
func TestFitsLetters(t *testing.T) {
	f := plain("t", api.Text)
	second := []byte{0x00, 0x22, 0x7f, 0x80, 0x8f, 0x90, 0x9f, 0xa0, 0xbf, 0xc0, 0xff}
	tails := []string{"", "\x80", "\xbf", "\x7f", "\xc0", "\x80\x80", "\xbf\xbf", "\x80\xc0", "\x80\x80\x80"}
	for a := range 256 {
		for _, b := range second {
			for _, tail := range tails {
				s := string([]byte{byte(a), b}) + tail
				want := api.ErrValue
				if modelUTF.MatchString(latin(s)) {
					want = api.OK
				}
				if got := Fits(f, text(s)); got != want {
					t.Fatalf("Fits(Text, %x) = %d, want %d", s, got, want)
				}
			}
		}
		if got := Fits(f, text(string([]byte{byte(a)}))); (got == api.OK) != (a < 128) {
			t.Errorf("Fits(Text, %x) = %d", a, got)
		}
	}
	if e := Fits(f, text("")); e != api.OK {
		t.Errorf("the empty text: %d", e)
	}
}

// P4.1: so many values of a list, and so much weight, are allowed.
func TestFitsLimits(t *testing.T) {
	item := plain("i", api.Bytes)
	l := with("l", api.List, item)
	ll := with("l", api.List, l)
	most := make([]api.Value, 4096)
	row := list(most...) // weighs 16 + 65536
	rows := func(n int, last string) api.Value {
		return list(append(slices.Repeat([]api.Value{row}, n), list(text(last)))...)
	}
	left := 1<<22 - 16 - 63*65552 - 32 // 63 rows and a list of one text
	for name, x := range map[string]struct {
		f    api.Field
		v    api.Value
		want api.Errno
	}{
		"4096 values":             {l, row, api.OK},
		"4097 values":             {l, list(append(slices.Clone(most), api.Value{})...), api.ErrValue},
		"4097 values within":      {ll, list(list(), list(append(slices.Clone(most), api.Value{})...)), api.ErrValue},
		"4097 values in a struct": {with("s", api.Struct, l), list(list(append(slices.Clone(most), api.Value{})...)), api.ErrValue},
		"all bytes":               {item, text(strings.Repeat("a", 1<<22-16)), api.OK},
		"a byte more":             {item, text(strings.Repeat("a", 1<<22-15)), api.ErrValue},
		"all letters":             {plain("t", api.Text), text(strings.Repeat("é", 1<<21-8)), api.OK},
		"a letter more":           {plain("t", api.Text), text(strings.Repeat("é", 1<<21-7)), api.ErrValue},
		"all weight":              {ll, rows(63, strings.Repeat("a", left)), api.OK},
		"a byte's weight more":    {ll, rows(63, strings.Repeat("a", left+1)), api.ErrValue},
		"64 rows":                 {ll, rows(64, ""), api.ErrValue},
		"in a dictionary":         {dict("d", item), text(strings.Repeat("a", 1<<22-16)), api.OK},
		"in runs of one":          {with("r", api.Runs, dict("d", item)), text(strings.Repeat("a", 1<<22-15)), api.ErrValue},
		"in runs of one, all":     {with("r", api.Runs, dict("d", item)), text(strings.Repeat("a", 1<<22-16)), api.OK},
	} {
		if got := Fits(x.f, x.v); got != x.want || modelFits(x.f, x.v) != (x.want == api.OK) {
			t.Errorf("%s: %d, want %d", name, got, x.want)
		}
	}
}

// P4.1, R1: what holds itself, or far more than may be, is looked at up to a bound.
func TestFitsEnds(t *testing.T) {
	f := plain("i", api.Null)
	f.Nullable = true
	v := null
	for range 63 {
		f = with("l", api.List, f)
		v = list(slices.Repeat([]api.Value{v}, 4096)...)
	}
	if e := Fits(f, v); e != api.ErrValue {
		t.Errorf("lists of lists: %d", e)
	}
	round := make([]api.Value, 2)
	round[0].List, round[1].List = round, round
	if e := Fits(f, round[0]); e != api.ErrValue {
		t.Errorf("a list in itself: %d", e)
	}
	if _, e := Print(f, round[0]); e != api.ErrValue {
		t.Errorf("Print of a list in itself: %d", e)
	}
	if _, e := Compare(f, list(), round[0]); e != api.ErrValue {
		t.Errorf("Compare of a list in itself: %d", e)
	}
}

// P4.1: against the model, on values that fit and on those with a few things changed.
func TestFitsModel(t *testing.T) {
	c := newChance(1)
	told := map[api.Errno]int{}
	for range 40000 {
		f := c.field()
		v := c.value(f)
		if e := Fits(f, v); e != api.OK {
			t.Fatalf("Fits(%v, %v) = %d", f, v, e)
		}
		x := c.hurt(v)
		want := api.ErrValue
		if modelFits(f, x) {
			want = api.OK
		}
		told[want]++
		if e := Fits(f, x); e != want {
			t.Fatalf("Fits(%v, %v) = %d, want %d", f, x, e, want)
		}
		g := c.field()
		if e := Fits(g, v); (e == api.OK) != modelFits(g, v) {
			t.Fatalf("Fits(%v, %v) = %d", g, v, e)
		}
	}
	if told[api.OK] < 2000 || told[api.ErrValue] < 2000 {
		t.Errorf("told %v", told)
	}
}

// wrongFields are fields that may not be, of each sort.
func wrongFields() []api.Field {
	i8 := plain("i", api.Int8)
	deep := i8
	for range 64 {
		deep = with("l", api.List, deep)
	}
	round := []api.Field{with("a", api.List)}
	round[0].Type.Fields = round
	l := []api.Field{
		{}, plain("a", 0), plain("a", 21), plain("a", -1), plain("", api.Int8), plain("9", api.Int8), plain("a", api.Null),
		wide("a", api.Bool, 1), wide("a", api.Fixed, 0), wide("a", api.Fixed, 17), wide("a", api.Span, 0, i8), wide("a", api.Span, 65, i8),
		with("a", api.List), with("a", api.Span), with("a", api.Dict), with("a", api.Runs), with("a", api.Choice), maybe(with("a", api.Choice, i8)),
		maybe(with("a", api.Runs, i8)), dict("d", maybe(i8)), dict("d", dict("e", i8)), with("a", api.Struct, i8, i8), with("a", api.Text, i8),
		deep, round[0], with("s", api.Struct, i8, with("l", api.List, plain("", api.Int8))),
	}
	return l
}

// P4.1: ErrType of all calls that take a field, ahead of all else.
func TestErrType(t *testing.T) {
	for _, f := range wrongFields() {
		if kind.CheckField(f).Err == api.OK {
			t.Fatalf("%v may be", f)
		}
		for _, v := range []api.Value{{}, null, num(5), text("\xff"), list(num(1)), {Null: true, Num: 1}} {
			if e := Fits(f, v); e != api.ErrType {
				t.Errorf("Fits(%v) = %d", f, e)
			}
			if n, e := Compare(f, v, num(9)); n != 0 || e != api.ErrType {
				t.Errorf("Compare(%v) = %d, %d", f, n, e)
			}
			if s, e := Print(f, v); s != "" || e != api.ErrType {
				t.Errorf("Print(%v) = %s, %d", f, s, e)
			}
		}
		if v, e := Zero(f); !isNone(v) || e != api.ErrType {
			t.Errorf("Zero(%v) = %v, %d", f, v, e)
		}
		for _, s := range []string{"", "0", "null", strings.Repeat("[", api.MaxText+1)} {
			if v, e, at := Parse(f, s); !isNone(v) || e != api.ErrType || at != 0 {
				t.Errorf("Parse(%v) = %v, %d, %d", f, v, e, at)
			}
		}
	}
}

// isNone tells whether a value is the zero one of its Go type.
func isNone(v api.Value) bool { return !v.Null && v.Num == 0 && v.Text == "" && v.List == nil }
