package value

import (
	"hash/fnv"
	"math"
	"reflect"
	"slices"
	"strings"
	"testing"

	"colonnade/api"
)

// ordered holds Compare against the order of a list, in which each value stands ahead of those behind it.
func ordered(t *testing.T, f api.Field, l ...api.Value) {
	t.Helper()
	for i, a := range l {
		for k, b := range l {
			want := 0
			if i < k {
				want = -1
			} else if i > k {
				want = 1
			}
			if n, e := Compare(f, a, copied(b)); n != want || e != api.OK {
				t.Errorf("Compare(%v, %v, %v) = %d, %d, want %d", f, a, b, n, e, want)
			}
		}
	}
}

// P4.1: the order of each kind.
func TestOrder(t *testing.T) {
	i8 := maybe(plain("i", api.Int8))
	tx := plain("t", api.Text)
	ordered(t, maybe(plain("n", api.Null)), null)
	ordered(t, maybe(plain("b", api.Bool)), null, num(0), num(1))
	ordered(t, i8, null, num(-128), num(-1), num(0), num(1), num(127))
	ordered(t, plain("i", api.Int64), num(math.MinInt64), num(-1), num(0), num(math.MaxInt64))
	ordered(t, plain("u", api.Uint32), num(0), num(1<<31), num(1<<32-1))
	ordered(t, maybe(plain("u", api.Uint64)), null, num(0), num(1), num(math.MaxInt64), num(math.MinInt64), num(-2), num(-1))
	ordered(t, maybe(plain("f", api.Float64)), null, num(-1), num(-1<<51), num(-1<<52+1), float(math.Inf(-1)), float(-math.MaxFloat64), float(-1),
		float(-math.SmallestNonzeroFloat64), float(math.Copysign(0, -1)), float(0), float(math.SmallestNonzeroFloat64), float(1), float(1.5), float(2),
		float(math.MaxFloat64), float(math.Inf(1)), num(2047<<52+1), num(2047<<52+1<<51), num(math.MaxInt64))
	ordered(t, tx, text(""), text("\x00"), text("a"), text("a\x00"), text("aa"), text("b"), text("é"), text("\U00010000"))
	ordered(t, maybe(plain("b", api.Bytes)), null, text(""), text("\x00"), text("\x00\xff"), text("a"), text("\x80"), text("\xff"), text("\xff\x00"))
	ordered(t, wide("x", api.Fixed, 2), text("\x00\x00"), text("\x00\xff"), text("a\x00"), text("\xff\x00"))
	ordered(t, maybe(with("l", api.List, i8)), null, list(), list(null), list(null, null), list(num(-1), num(5)), list(num(1)), list(num(1), num(2)), list(num(2)))
	ordered(t, wide("s", api.Span, 2, i8), list(null, null), list(null, num(1)), list(num(0), null), list(num(0), num(0)))
	ordered(t, maybe(with("s", api.Struct, plain("u", api.Uint64), tx)), null, list(num(1), text("")), list(num(1), text("a")), list(num(-1), text("")))
	ordered(t, with("s", api.Struct), list())
	ordered(t, with("c", api.Choice, tx, i8), chosen(0, text("a")), chosen(0, text("b")), chosen(1, null), chosen(1, num(-5)), chosen(1, num(5)))
	ordered(t, maybe(dict("d", plain("u", api.Uint64))), null, num(1), num(-1))
	ordered(t, maybe(with("r", api.Runs, maybe(plain("f", api.Float64)))), null, float(-2), float(-1), float(3))
}

// P4.1: what does not fit, the first one or the second one.
func TestCompareWrong(t *testing.T) {
	f := plain("i", api.Int8)
	for _, x := range []struct{ a, b api.Value }{{num(1), num(128)}, {num(128), num(1)}, {null, num(1)}, {num(1), null}, {num(200), num(200)}, {text("a"), num(0)}} {
		if n, e := Compare(f, x.a, x.b); n != 0 || e != api.ErrValue {
			t.Errorf("Compare(%v, %v) = %d, %d", x.a, x.b, n, e)
		}
	}
	c := newChance(5)
	for range 5000 {
		f := c.field()
		a, b := c.hurt(c.value(f)), c.value(f)
		if modelFits(f, a) {
			continue
		}
		if n, e := Compare(f, a, b); n != 0 || e != api.ErrValue {
			t.Fatalf("Compare(%v, %v, %v) = %d, %d", f, a, b, n, e)
		}
		if n, e := Compare(f, b, a); n != 0 || e != api.ErrValue {
			t.Fatalf("Compare(%v, %v, %v) = %d, %d", f, b, a, n, e)
		}
	}
}

// near makes values of a field that are often the same, or nearly.
func near(c *chance, f api.Field) []api.Value {
	l := []api.Value{c.value(f), c.value(f), c.value(f)}
	for range 12 {
		if v := c.hurt(l[c.Intn(len(l))]); modelFits(f, v) {
			l = append(l, v)
		}
	}
	return append(l, copied(l[0]))
}

// P4.1, P4.2: against keys whose bytes stand in that order, and as an order.
func TestCompareModel(t *testing.T) {
	c := newChance(2)
	told := map[int]int{}
	for range 4000 {
		f := c.field()
		l := near(c, f)
		n := make([][]int, len(l))
		for i, a := range l {
			for _, b := range l {
				x, e := Compare(f, a, b)
				if want := strings.Compare(modelKey(f, a), modelKey(f, b)); x != want || e != api.OK {
					t.Fatalf("Compare(%v, %v, %v) = %d, %d, want %d", f, a, b, x, e, want)
				}
				if (x == 0) != Same(a, b) || (x == 0) != sameInAll(a, b) {
					t.Fatalf("Compare(%v, %v, %v) = %d, Same %v", f, a, b, x, Same(a, b))
				}
				if Same(a, b) && Hash(a) != Hash(b) {
					t.Fatalf("two hashes of %v", a)
				}
				n[i] = append(n[i], x)
				told[x]++
			}
		}
		for i := range l {
			for k := range l {
				if n[i][k] != -n[k][i] {
					t.Fatalf("%v and %v, and the other way round", l[i], l[k])
				}
				for m := range l {
					if n[i][k] <= 0 && n[k][m] <= 0 && n[i][m] > 0 {
						t.Fatalf("%v, %v, %v", l[i], l[k], l[m])
					}
				}
			}
		}
	}
	if told[0] < 10000 || told[-1] < 10000 {
		t.Errorf("told %v", told)
	}
}

// sameInAll tells whether two values are the same, lists of none being nil or not.
func sameInAll(a, b api.Value) bool { return reflect.DeepEqual(copied(a), copied(b)) }

// P4.1: what is the same, of any values.
func TestSame(t *testing.T) {
	l := []api.Value{
		{}, {Null: true}, {Num: 1}, {Num: -1}, {Text: "a"}, {Text: "\xff"}, {Text: "a\x00"}, {List: []api.Value{{}}}, {List: []api.Value{{}, {}}}, {List: []api.Value{{Null: true}}},
		{Null: true, Num: 1}, {Null: true, Num: 1, Text: "a", List: []api.Value{{Num: 1}}}, {Num: 1, Text: "a", List: []api.Value{{Num: 1}}},
		{List: []api.Value{{}, {Num: 1}}}, {List: []api.Value{{Num: 1}, {}}}, {List: []api.Value{{List: []api.Value{{}}}}},
	}
	for i, a := range l {
		for k, b := range l {
			if got := Same(a, copied(b)); got != (i == k) {
				t.Errorf("Same(%v, %v) = %v", a, b, got)
			}
		}
	}
	if !Same(api.Value{}, api.Value{List: []api.Value{}}) || !Same(list(list()), list(api.Value{})) {
		t.Error("a list of none isn't the same as no list")
	}
}

// rowOf is a value's row of bytes.
func rowOf(v api.Value) []byte {
	var b []byte
	eight := func(n int64) {
		for i := range 8 {
			b = append(b, byte(n>>(8*i)))
		}
	}
	b = append(b, map[bool]byte{true: 1}[v.Null])
	eight(v.Num)
	eight(int64(len(v.Text)))
	b = append(b, v.Text...)
	eight(int64(len(v.List)))
	for _, x := range v.List {
		b = append(b, rowOf(x)...)
	}
	return b
}

// P4.1, P4.4: the hash of any value, by another's hand.
func TestHash(t *testing.T) {
	c := newChance(3)
	held := func(v api.Value) {
		h := fnv.New64a()
		h.Write(rowOf(v))
		if got := Hash(v); got != h.Sum64() {
			t.Fatalf("Hash(%v) = %d, want %d", v, got, h.Sum64())
		}
		if Hash(copied(v)) != Hash(v) {
			t.Fatalf("Hash of a copy of %v", v)
		}
	}
	for _, v := range []api.Value{{}, null, num(-1), num(math.MinInt64), text("\x00"), text(strings.Repeat("ab", 300)), list(), list(list(), null), list(make([]api.Value, 300)...), {Null: true, Num: 7, Text: "x", List: []api.Value{{}}}} {
		held(v)
	}
	for range 5000 {
		v := c.value(c.field())
		held(v)
		held(c.hurt(v))
	}
	if Hash(api.Value{}) != Hash(api.Value{List: []api.Value{}}) {
		t.Error("the hash of a list of none")
	}
}

// P4.1, R1: values of any form, 2 to the power of 16 nested in one another.
func TestDeepValues(t *testing.T) {
	v, w := num(1), num(2)
	for range 1<<16 - 1 {
		v, w = list(v), list(w)
	}
	if !Same(v, v) || Same(v, w) || Hash(v) == Hash(w) {
		t.Error("deep values")
	}
	f := with("l", api.List, with("l", api.List, plain("i", api.Int8)))
	if e := Fits(f, v); e != api.ErrValue {
		t.Errorf("Fits = %d", e)
	}
}

// P4.1, P4.4: zero values by their words.
func TestZero(t *testing.T) {
	i8, tx := plain("i", api.Int8), plain("t", api.Text)
	for _, x := range []struct {
		f    api.Field
		want api.Value
	}{
		{maybe(plain("n", api.Null)), null}, {plain("b", api.Bool), num(0)}, {maybe(plain("b", api.Bool)), null}, {i8, num(0)}, {plain("f", api.Float64), num(0)}, {plain("u", api.Uint64), num(0)},
		{tx, text("")}, {plain("b", api.Bytes), text("")}, {wide("x", api.Fixed, 1), text("\x00")}, {wide("x", api.Fixed, 16), text(strings.Repeat("\x00", 16))}, {maybe(wide("x", api.Fixed, 16)), null},
		{with("l", api.List, i8), list()}, {wide("s", api.Span, 2, wide("s", api.Span, 1, maybe(i8))), list(list(null), list(null))}, {maybe(wide("s", api.Span, 2, i8)), null},
		{with("s", api.Struct, i8, maybe(tx), plain("b", api.Bytes)), list(num(0), null, text(""))}, {with("s", api.Struct), list()}, {maybe(with("s", api.Struct)), null},
		{with("c", api.Choice, wide("x", api.Fixed, 2), i8), chosen(0, text("\x00\x00"))}, {with("c", api.Choice, maybe(i8)), chosen(0, null)},
		{dict("d", wide("x", api.Fixed, 1)), text("\x00")}, {maybe(dict("d", i8)), null}, {with("r", api.Runs, wide("s", api.Span, 1, i8)), list(num(0))}, {maybe(with("r", api.Runs, maybe(tx))), null},
	} {
		v, e := Zero(x.f)
		if e != api.OK || !sameInAll(v, x.want) {
			t.Errorf("Zero(%v) = %v, %d, want %v", x.f, v, e, x.want)
		}
	}
	c := newChance(4)
	for range 20000 {
		f := c.field()
		if v, e := Zero(f); e != api.OK || Fits(f, v) != api.OK || !modelFits(f, v) {
			t.Fatalf("Zero(%v) = %v, %d", f, v, e)
		}
	}
}

// spans is a span of these widths, the last one innermost.
func spans(widths ...int) api.Field {
	f := plain("i", api.Int8)
	for _, n := range slices.Backward(widths) {
		f = wide("s", api.Span, n, f)
	}
	return f
}

func named(name string, f api.Field) api.Field {
	f.Name = name
	return f
}

// P4.1, P4.4: a zero value of the greatest weight, and of one more.
func TestZeroWeight(t *testing.T) {
	a, b := named("a", spans(63, 64, 63)), named("b", spans(62, 63)) // 4129792 and 63504
	full := with("s", api.Struct, a, b, named("c", spans(61)))
	v, e := Zero(full)
	if e != api.OK || modelWeight(v) != api.MaxWeight || Fits(full, v) != api.OK {
		t.Errorf("the greatest weight: %d, weighs %d", e, modelWeight(v))
	}
	over := with("s", api.Struct, a, b, named("c", spans(60)), wide("d", api.Fixed, 1))
	for name, f := range map[string]api.Field{
		"one more": over, "in a choice": with("c", api.Choice, full), "in runs": with("r", api.Runs, over), "in a dictionary": dict("d", over),
		"in a struct": with("s", api.Struct, full), "in a span": wide("s", api.Span, 1, full), "three spans": spans(64, 64, 64), "63 spans": spans(slices.Repeat([]int{64}, 63)...),
	} {
		if v, e := Zero(f); e != api.ErrRows || !isNone(v) {
			t.Errorf("%s: %d", name, e)
		}
	}
	for name, f := range map[string]api.Field{
		"nullable": maybe(over), "in a list": with("l", api.List, over), "another child of a choice": with("c", api.Choice, plain("i", api.Int8), named("o", over)),
		"runs": with("r", api.Runs, full), "a dictionary": dict("d", full), "63 spans of one": spans(slices.Repeat([]int{1}, 63)...),
		"nullable within": wide("s", api.Span, 64, maybe(over)),
	} {
		if v, e := Zero(f); e != api.OK || Fits(f, v) != api.OK {
			t.Errorf("%s: %d", name, e)
		}
	}
}

// lists tells all lists in a value.
func lists(v api.Value) [][]api.Value {
	var all [][]api.Value
	if cap(v.List) > 0 {
		all = append(all, v.List)
	}
	for _, x := range v.List {
		all = append(all, lists(x)...)
	}
	return all
}

// apart holds that no two lists of an answer share memory, spare room included.
func apart(t *testing.T, v api.Value) {
	t.Helper()
	seen := map[*api.Value]bool{}
	for _, l := range lists(v) {
		l = l[:cap(l)]
		for i := range l {
			if seen[&l[i]] {
				t.Fatalf("two lists of %v share memory", v)
			}
			seen[&l[i]] = true
		}
	}
}

// R3: answers are new memory, and what is handed in isn't changed.
func TestMemory(t *testing.T) {
	apart(t, func() api.Value { v, _ := Zero(spans(3, 4, 5)); return v }())
	c := newChance(6)
	for range 5000 {
		f := c.field()
		v := c.value(f)
		before, other := copied(v), c.value(f)
		z, _ := Zero(f)
		apart(t, z)
		Fits(f, v)
		Compare(f, v, other)
		Same(v, other)
		Hash(v)
		s, e := Print(f, v)
		p, e2, _ := Parse(f, s)
		if e != api.OK || e2 != api.OK {
			t.Fatalf("%v: %d, %d", v, e, e2)
		}
		apart(t, p)
		for _, l := range lists(p) {
			clear(l[:cap(l)])
		}
		if !sameInAll(v, before) {
			t.Fatalf("%v has become %v", before, v)
		}
	}
}
