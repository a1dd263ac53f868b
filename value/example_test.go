package value

import (
	"math"
	"testing"

	"colonnade/api"
)

// ab is the examples' choice.
func ab() api.Field { return with("c", api.Choice, plain("a", api.Int8), plain("b", api.Text)) }

// The chapter's examples, word by word.
func TestExamplesFits(t *testing.T) {
	i8 := plain("i", api.Int8)
	for i, x := range []struct {
		f    api.Field
		v    api.Value
		want api.Errno
	}{
		{i8, num(127), api.OK}, {i8, num(128), api.ErrValue}, {i8, null, api.ErrValue}, {maybe(i8), null, api.OK},
		{plain("t", api.Text), text("\xc3\x28"), api.ErrValue}, {wide("x", api.Fixed, 2), text("abc"), api.ErrValue}, {wide("b", api.Bool, 1), num(0), api.ErrType},
		{ab(), chosen(1, text("x")), api.OK}, {ab(), chosen(2, text("x")), api.ErrValue},
	} {
		if got := Fits(x.f, x.v); got != x.want {
			t.Errorf("line %d: %d, want %d", i, got, x.want)
		}
	}
}

func TestExamplesZero(t *testing.T) {
	i8 := plain("i", api.Int8)
	for _, x := range []struct {
		f    api.Field
		want api.Value
		e    api.Errno
	}{
		{wide("s", api.Span, 3, i8), list(num(0), num(0), num(0)), api.OK}, {maybe(plain("t", api.Text)), null, api.OK}, {ab(), list(num(0)), api.OK}, {spans(64, 64, 64), api.Value{}, api.ErrRows},
	} {
		if v, e := Zero(x.f); e != x.e || !sameInAll(v, x.want) {
			t.Errorf("Zero(%v) = %v, %d", x.f, v, e)
		}
	}
}

func TestExamplesCompare(t *testing.T) {
	for i, x := range []struct {
		f    api.Field
		a, b api.Value
		want int
	}{
		{plain("u", api.Uint64), num(-1), num(1), 1}, {plain("f", api.Float64), float(math.Copysign(0, -1)), float(0), -1}, {plain("f", api.Float64), float(math.Inf(1)), num(0x7ff8000000000000), -1},
		{with("l", api.List, plain("i", api.Int8)), list(num(1)), list(num(1), num(2)), -1}, {maybe(plain("b", api.Bool)), null, num(0), -1},
	} {
		if n, e := Compare(x.f, x.a, x.b); n != x.want || e != api.OK {
			t.Errorf("line %d: %d, %d", i, n, e)
		}
	}
	h := uint64(14695981039346656037)
	for range 25 {
		h *= 1099511628211
	}
	if got := Hash(num(0)); got != h {
		t.Errorf("Hash = %d, want %d", got, h)
	}
}

func TestExamplesTexts(t *testing.T) {
	f, i8 := plain("f", api.Float64), plain("i", api.Int8)
	l := with("l", api.List, i8)
	readAs(t, f, float(1.5), "3p-1")
	readAs(t, f, float(1), "1p0")
	readAs(t, f, float(0.1), "3602879701896397p-55")
	readAs(t, f, float(math.SmallestNonzeroFloat64), "1p-1074")
	readAs(t, f, float(math.Ldexp(1, 1023)), "1p1023")
	readAs(t, f, float(math.Copysign(0, -1)), "-0p0")
	readAs(t, f, num(0x7ff8000000000000), "nan8000000000000")
	readAs(t, plain("t", api.Text), text("a\"\n"), `"a\"\n"`)
	readAs(t, wide("x", api.Fixed, 2), text("\x0a\xff"), `x"0aff"`)
	readAs(t, with("s", api.Struct, named("a", i8), named("b", with("l", api.List, maybe(i8)))), list(num(1), list(null, num(2))), "{a:1,b:[null,2]}")
	readAs(t, ab(), chosen(1, text("x")), `b("x")`)
	readAs(t, i8, num(12), "12")
	for s, at := range map[string]int{"012": 0, "-0": 0, "128": 0, "+1": 0, "1 ": 1, "": 0} {
		refused(t, i8, s, api.ErrForm, at)
	}
	refused(t, f, "2p0", api.ErrForm, 0)
	refused(t, f, "1p1024", api.ErrForm, 0)
	for s, at := range map[string]int{"[1,2": 4, "[1,,2]": 3, "[1,x]": 3, "[]x": 2} {
		refused(t, l, s, api.ErrForm, at)
	}
	refused(t, plain("t", api.Text), `"\x41"`, api.ErrForm, 1)
	d := maybe(dict("d", with("c", api.Choice, named("null", i8), named("nullA", i8))))
	readAs(t, d, null, "null")
	readAs(t, d, chosen(0, num(5)), "null(5)")
	readAs(t, d, chosen(1, num(5)), "nullA(5)")
	refused(t, d, "nullB", api.ErrForm, 0)
}
