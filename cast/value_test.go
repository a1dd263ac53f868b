package cast

import (
	"math"
	"testing"

	"colonnade/api"
	"colonnade/value"
)

// P16.1: which fault is told first.
func TestValueFaultsInOrder(t *testing.T) {
	bad := api.Field{Name: "f", Type: api.Type{Kind: api.Fixed}}
	for _, x := range []struct {
		from api.Field
		v    api.Value
		to   api.Field
		want api.Errno
	}{
		{bad, num(1), field(t, "int8"), api.ErrType},
		{field(t, "bytes"), num(1), bad, api.ErrType},
		{field(t, "bytes"), num(1), field(t, "int8"), api.ErrCast},
		{field(t, "bytes"), text("1"), field(t, "int8"), api.ErrCast},
		{field(t, "int8"), num(128), field(t, "int8"), api.ErrValue},
		{field(t, "int8"), num(128), field(t, "int64"), api.ErrValue},
		{field(t, "int8"), null, field(t, "int8?"), api.ErrValue},
		{field(t, "int8"), api.Value{Num: 1, Text: "1"}, field(t, "text"), api.ErrValue},
		{field(t, "text"), text("\xff"), field(t, "bytes"), api.ErrValue},
		{field(t, "span(2, i int8)"), list(num(1)), field(t, "span(1, i int8)"), api.ErrValue},
		{field(t, "list(i int64)"), list(num(300), text("x")), field(t, "list(i int8)"), api.ErrValue},
		{field(t, "choice(a int8)"), api.Value{Num: 1, List: []api.Value{num(1)}}, field(t, "choice(a int8)"), api.ErrValue},
		{field(t, "choice(a int8)"), num(0), field(t, "choice(a int8)"), api.ErrValue},
		{field(t, "null?"), num(0), field(t, "int8"), api.ErrValue},
		{field(t, "int64"), num(128), field(t, "int8"), api.ErrLost},
		{field(t, "int64"), num(127), field(t, "int8"), api.OK},
	} {
		v, e := Value(x.from, x.v, x.to)
		want := api.Value{}
		if x.want == api.OK {
			want = x.v
		}
		holdsValue(t, "Value", v, e, want, x.want)
	}
}

// ranges has each kind of whole numbers with its least and its greatest one, as texts, and the floating-point numbers just beyond.
var ranges = []struct {
	kind, least, most string
	below, above      float64
}{
	{"bool", "0", "1", -1, 2},
	{"int8", "-128", "127", -129, 128},
	{"int16", "-32768", "32767", -32769, 32768},
	{"int32", "-2147483648", "2147483647", -2147483649, 2147483648},
	{"int64", "-9223372036854775808", "9223372036854775807", -9223372036854777856, 9223372036854775808},
	{"uint8", "0", "255", -1, 256},
	{"uint16", "0", "65535", -1, 65536},
	{"uint32", "0", "4294967295", -1, 4294967296},
	{"uint64", "0", "18446744073709551615", -1, 18446744073709551616},
}

// numOf is the Num of a whole number of a kind, given as a text.
func numOf(t *testing.T, k, s string) api.Value {
	t.Helper()
	if k == "bool" {
		return one(t, field(t, "int8"), s)
	}
	return one(t, field(t, k), s)
}

// P16.1: from floating-point numbers, at the ends of each range and a little beyond them.
func TestRangesOfFloats(t *testing.T) {
	for _, x := range ranges {
		for _, beyond := range []float64{x.below, x.above, math.Nextafter(x.below, math.Inf(-1)), math.Nextafter(x.above, math.Inf(1)), -1e300, 1e300, math.Inf(1), math.Inf(-1), math.NaN(), -math.NaN()} {
			becomes(t, "float64", float(beyond), x.kind, api.Value{}, api.ErrLost)
		}
		becomes(t, "float64", num(0x7ff0000000000001), x.kind, api.Value{}, api.ErrLost)
		if x.kind != "int64" {
			becomes(t, "float64", float(math.Nextafter(x.below, 0)), x.kind, numOf(t, x.kind, x.least), api.OK)
		}
		if x.kind != "int64" && x.kind != "uint64" {
			becomes(t, "float64", float(math.Nextafter(x.above, 0)), x.kind, numOf(t, x.kind, x.most), api.OK)
		}
		for _, zero := range []float64{0, math.Copysign(0, -1), 0.99, -0.99, 5e-324, -5e-324} {
			becomes(t, "float64", float(zero), x.kind, num(0), api.OK)
		}
	}
	becomes(t, "float64", float(-1<<63), "int64", num(-1<<63), api.OK)
	becomes(t, "float64", float(1<<63-1024), "int64", num(1<<63-1024), api.OK)
	becomes(t, "float64", float(1<<64-2048), "uint64", num(-2048), api.OK)
	becomes(t, "float64", float(-3.99), "int8", num(-3), api.OK)
}

// P16.1: from texts: just a number's text, and just in the range.
func TestRangesOfTexts(t *testing.T) {
	for _, x := range ranges[1:] {
		becomes(t, "text", text(x.least), x.kind, numOf(t, x.kind, x.least), api.OK)
		becomes(t, "text", text(x.most), x.kind, numOf(t, x.kind, x.most), api.OK)
		for _, s := range []string{"", " ", "-", "-0", "+1", "01", "1 ", "1.0", "1p0", "0x1", "1_0", "true", "null", "\"1\"", "１", "-129000000000000000000", x.most + "0", x.least + "9"} {
			becomes(t, "text", text(s), x.kind, api.Value{}, api.ErrLost)
		}
	}
	becomes(t, "text", text("256"), "uint8", api.Value{}, api.ErrLost)
	becomes(t, "text", text("-1"), "uint8", api.Value{}, api.ErrLost)
	becomes(t, "text", text("18446744073709551616"), "uint64", api.Value{}, api.ErrLost)
	becomes(t, "text", text("9223372036854775808"), "int64", api.Value{}, api.ErrLost)
	becomes(t, "text", text("true"), "bool", num(1), api.OK)
	becomes(t, "text", text("false"), "bool?", num(0), api.OK)
	for _, s := range []string{"0", "1", "True", "null", "", "true "} {
		becomes(t, "text", text(s), "bool?", api.Value{}, api.ErrLost)
	}
	long := make([]byte, 70000)
	for i := range long {
		long[i] = '1'
	}
	becomes(t, "text", text(string(long)), "int8", api.Value{}, api.ErrLost)
}

// P16.1: among whole numbers, each end of each range in each kind.
func TestRangesOfWholes(t *testing.T) {
	for _, a := range ranges {
		for _, s := range []string{a.least, a.most} {
			v := numOf(t, a.kind, s)
			for _, b := range ranges {
				from, to := field(t, a.kind), field(t, b.kind)
				n, ok := modelNumber(from.Type.Kind, v.Num, to.Type.Kind)
				// The number is in the range just if its text is one of that kind.
				_, e, _ := value.Parse(to, s)
				if b.kind != "bool" && ok != (e == api.OK) {
					t.Fatalf("%s as %s: %v", s, b.kind, ok)
				}
				want, err := num(n), api.OK
				if !ok {
					want, err = api.Value{}, api.ErrLost
				}
				becomes(t, a.kind, v, b.kind, want, err)
			}
		}
	}
	becomes(t, "int8", num(2), "bool", api.Value{}, api.ErrLost)
	becomes(t, "int8", num(-1), "bool", api.Value{}, api.ErrLost)
	becomes(t, "uint64", num(-1), "int64", api.Value{}, api.ErrLost)
	becomes(t, "uint64", num(-1), "int8", api.Value{}, api.ErrLost)
	becomes(t, "uint64", num(-1), "uint64?", num(-1), api.OK)
	becomes(t, "uint64", num(-1), "text", text("18446744073709551615"), api.OK)
	becomes(t, "int64", num(-1), "text", text("-1"), api.OK)
}

// P16.1: of two floating-point numbers that are as near the one whose lowest bit is 0.
func TestNearest(t *testing.T) {
	for _, x := range []struct {
		n    uint64
		bits int64
	}{
		{0, 0}, {1, 0x3ff0000000000000}, {1 << 53, 0x4340000000000000}, {1<<53 + 1, 0x4340000000000000}, {1<<53 + 2, 0x4340000000000001},
		{1<<53 + 3, 0x4340000000000002}, {1<<54 + 2, 0x4350000000000000}, {1<<54 + 3, 0x4350000000000001}, {1<<54 + 6, 0x4350000000000002},
		{1<<63 - 1, 0x43e0000000000000}, {1<<63 - 512, 0x43e0000000000000}, {1<<63 - 513, 0x43dfffffffffffff},
		{1 << 63, 0x43e0000000000000}, {1<<63 + 1024, 0x43e0000000000000}, {1<<63 + 1025, 0x43e0000000000001}, {1<<63 + 3072, 0x43e0000000000002},
		{1<<64 - 1, 0x43f0000000000000}, {1<<64 - 1024, 0x43f0000000000000}, {1<<64 - 1025, 0x43efffffffffffff},
	} {
		becomes(t, "uint64", num(int64(x.n)), "float64", num(x.bits), api.OK)
		if x.n < 1<<63 && x.n > 0 {
			becomes(t, "int64", num(int64(x.n)), "float64", num(x.bits), api.OK)
			becomes(t, "int64", num(-int64(x.n)), "float64", num(x.bits|-1<<63), api.OK)
		}
	}
	becomes(t, "int64", num(0), "float64", num(0), api.OK)
	becomes(t, "int64", num(-1<<63), "float64", float(-1<<63), api.OK)
	becomes(t, "bool", num(1), "float64", float(1), api.OK)
}

// P16.1: the bits of a floating-point number stay, whatever they are, and so does what its text tells.
func TestFloatsStay(t *testing.T) {
	for _, x := range []struct {
		bits uint64
		text string
	}{
		{0, "0p0"}, {1 << 63, "-0p0"}, {0x7ff0000000000000, "inf"}, {0xfff0000000000000, "-inf"}, {0x7ff8000000000000, "nan8000000000000"},
		{0x7ff0000000000001, "nan0000000000001"}, {0xffffffffffffffff, "-nanfffffffffffff"}, {1, "1p-1074"}, {0x7fe0000000000000, "1p1023"}, {0x3fb999999999999a, "3602879701896397p-55"},
	} {
		v := num(int64(x.bits))
		becomes(t, "float64", v, "float64?", v, api.OK)
		becomes(t, "float64", v, "text", text(x.text), api.OK)
		becomes(t, "text", text(x.text), "float64", v, api.OK)
	}
	for _, s := range []string{"", "0", "1", "2p0", "0p1", "1p1024", "1p-1075", "nan", "nan0000000000000", "NaN", "infinity", "+inf", "1e5", "9007199254740993p0"} {
		becomes(t, "text", text(s), "float64", api.Value{}, api.ErrLost)
	}
}

// P16.1: texts, bytes and bytes of a width.
func TestTexts(t *testing.T) {
	const e = "\xc3\xa9"
	for _, x := range []struct {
		from, text, to string
		can            bool
	}{
		{"text", e, "bytes", true}, {"text", e, "fixed(2)", true}, {"text", e, "fixed(1)", false}, {"text", "", "fixed(1)", false}, {"text", "", "bytes", true}, {"text", "null", "text?", true},
		{"bytes", e, "text", true}, {"bytes", "\xc3", "text", false}, {"bytes", "\xed\xa0\x80", "text", false}, {"bytes", "\xf4\x90\x80\x80", "text", false}, {"bytes", "\xc0\x80", "text", false}, {"bytes", "", "text", true},
		{"bytes", "\xff\x00", "fixed(2)", true}, {"bytes", "\xff", "fixed(2)", false}, {"bytes", "\xff\xff\xff", "fixed(2)", false}, {"bytes", "\xff", "bytes", true},
		{"fixed(2)", e, "text", true}, {"fixed(2)", "\xc3\x28", "text", false}, {"fixed(2)", "\xc3\x28", "bytes", true}, {"fixed(2)", "\x00\x00", "text", true},
		{"fixed(2)", "\xc3\x28", "fixed(2)", true}, {"fixed(2)", "ab", "fixed(3)", false}, {"fixed(2)", "ab", "fixed(1)", false},
	} {
		want, err := text(x.text), api.OK
		if !x.can {
			want, err = api.Value{}, api.ErrLost
		}
		becomes(t, x.from, text(x.text), x.to, want, err)
	}
}

// P16.1: nulls: one becomes null where the other field lets one, at any depth, and can't be elsewhere.
func TestNulls(t *testing.T) {
	for _, from := range []string{"null?", "int8?", "text?", "list(i int8)?", "struct(a int8)?", "dict(0, int8, w text)?", "runs(v int8?)?", "runs(v null?)?", "runs(v dict(0, int8, w int8)?)?", "dict(0, int8, w choice(a int8))?"} {
		for _, to := range []string{"null?", "int8", "bytes", "span(2, i int8)", "struct(a int8)", "struct(a choice(b text))", "dict(0, int8, w text)", "dict(1, int8, w choice(a text))", "runs(v int8)", "choice(a int8)"} {
			if f := field(t, from); Can(f, field(t, to)) {
				err := api.ErrLost
				if to == "null?" {
					err = api.OK
				}
				v, e := Value(f, null, field(t, to))
				holdsValue(t, from+" to "+to, v, e, api.Value{Null: err == api.OK}, err)
			}
		}
		for _, to := range []string{"null?", "int8?", "bytes?", "list(i int8)?", "struct(a choice(b text))?", "struct(a int8)?", "dict(1, int8, w text)?", "dict(1, int8, w choice(a text))?", "runs(v int8?)?", "runs(v runs(w null?)?)?"} {
			if f := field(t, from); Can(f, field(t, to)) {
				becomes(t, from, null, to, null, api.OK)
			}
		}
	}
	becomes(t, "list(i int8?)", list(num(1), null), "list(i text?)", list(text("1"), null), api.OK)
	becomes(t, "list(i int8?)?", list(num(1), null), "list(i text)?", api.Value{}, api.ErrLost)
	becomes(t, "list(i null?)", list(null, null), "span(2, i text?)", list(null, null), api.OK)
	becomes(t, "list(i null?)", list(null), "list(i text)", api.Value{}, api.ErrLost)
	becomes(t, "list(i null?)", list(), "list(i text)", list(), api.OK)
	becomes(t, "struct(a int8?, b int8)", list(null, num(1)), "struct(a int8, b int8)", api.Value{}, api.ErrLost)
}

// P16.1: values of many: item by item, child by child, and the child that a choice names.
func TestNests(t *testing.T) {
	becomes(t, "list(i int8)", list(num(1), num(2)), "span(2, i text)", list(text("1"), text("2")), api.OK)
	becomes(t, "list(i int8)", list(num(1)), "span(2, i text)", api.Value{}, api.ErrLost)
	becomes(t, "list(i int8)", list(), "span(1, i text)", api.Value{}, api.ErrLost)
	becomes(t, "list(i int8)", list(num(1), num(2), num(3)), "span(2, i text)", api.Value{}, api.ErrLost)
	becomes(t, "span(2, i int8)", list(num(1), num(2)), "span(1, i int8)", api.Value{}, api.ErrLost)
	becomes(t, "span(2, i int8)", list(num(1), num(2)), "list(i bool)", api.Value{}, api.ErrLost)
	becomes(t, "span(2, i int8)", list(num(1), num(0)), "list(i bool)", list(num(1), num(0)), api.OK)
	becomes(t, "struct(a int8, b text)", list(num(1), text("2")), "struct(a text, b int8)", list(text("1"), num(2)), api.OK)
	becomes(t, "struct(a int8, b text)", list(num(1), text("x")), "struct(a text, b int8)", api.Value{}, api.ErrLost)
	becomes(t, "struct()", list(), "struct()", list(), api.OK)

	choice := func(n int64, v api.Value) api.Value { return api.Value{Num: n, List: []api.Value{v}} }
	from, to := "choice(a int64, b text)", "choice(a text, b int8)"
	becomes(t, from, choice(0, num(300)), to, choice(0, text("300")), api.OK)
	becomes(t, from, choice(1, text("3")), to, choice(1, num(3)), api.OK)
	becomes(t, from, choice(1, text("300")), to, api.Value{}, api.ErrLost)
	becomes(t, "dict(0, int8, w "+from+")?", choice(1, text("3")), "runs(v "+to+")", choice(1, num(3)), api.OK)

	deep := list(list(list(num(1), list(num(300)))))
	becomes(t, "list(i list(j struct(a int8, b list(k int64))))", deep, "list(i list(j struct(a int8, b list(k int8))))", api.Value{}, api.ErrLost)
	becomes(t, "list(i list(j struct(a int8, b list(k int64))))", deep, "list(i span(1, j struct(a text, b dict(0, int8, w list(k float64)))))", list(list(list(text("1"), list(float(300))))), api.OK)
}

// heavy is a value that becomes just as heavy as may be, as a list of lists of texts: 245,760 numbers, of which some have two digits.
func heavy(twoDigits int) api.Value {
	v := list()
	for range 60 {
		items := make([]api.Value, 4096)
		for i := range items {
			if twoDigits > 0 {
				items[i].Num = 10
				twoDigits--
			}
		}
		v.List = append(v.List, list(items...))
	}
	return v
}

// P16.1: of the whole its weight is asked.
func TestWeight(t *testing.T) {
	from, to := field(t, "list(i list(j int8))"), field(t, "list(i list(j text))?")
	v := heavy(15408)
	w, e := Value(from, v, to)
	if e != api.OK || modelWeight(w) != 4194304 || w.List[59].List[4095].Text != "0" {
		t.Fatalf("as heavy as may be: %d, weight %d", e, modelWeight(w))
	}
	back, e := Value(to, w, from)
	if e != api.OK || !value.Same(back, v) {
		t.Fatalf("back: %d", e)
	}
	w, e = Value(from, heavy(15409), to)
	holdsValue(t, "too heavy", w, e, api.Value{}, api.ErrLost)
	w, e = Value(from, heavy(15409), field(t, "list(i list(j int64?)?)"))
	if e != api.OK || !value.Same(w, heavy(15409)) {
		t.Fatalf("not heavier than it was: %d", e)
	}
}

// P16.1: any values of any fields are as the chapter's words tell them, also values that don't fit.
func TestAnyValues(t *testing.T) {
	c := newChance(2)
	told := map[api.Errno]int{}
	for range 60000 {
		from, to := c.pair()
		v := num(int64(c.Intn(3)))
		if modelPair(from, from) == api.OK && !c.in(20) {
			v = c.value(from)
		}
		want, err := modelValue(from, v, to)
		got, e := Value(from, v, to)
		holdsValue(t, "Value", got, e, want, err)
		if Can(from, to) != (modelPair(from, to) == api.OK) {
			t.Fatalf("Can(%v, %v)", from, to)
		}
		if e == api.OK && value.Fits(to, got) != api.OK {
			t.Fatalf("%v doesn't fit %v", got, to)
		}
		told[e]++
	}
	for _, e := range []api.Errno{api.OK, api.ErrType, api.ErrCast, api.ErrValue, api.ErrLost} {
		if told[e] < 500 {
			t.Errorf("%d only %d times", e, told[e])
		}
	}
}

// P16.1: all numbers about which something changes, from each kind to each.
func TestAnyNumbers(t *testing.T) {
	c := newChance(3)
	for _, a := range words[:12] {
		for _, b := range words[:12] {
			from, to := api.Field{Name: "a", Type: api.Type{Kind: a}}, api.Field{Name: "b", Type: api.Type{Kind: b}}
			for range 1500 {
				v := c.value(from)
				want, err := modelValue(from, v, to)
				got, e := Value(from, v, to)
				holdsValue(t, "Value", got, e, want, err)
			}
		}
	}
}
