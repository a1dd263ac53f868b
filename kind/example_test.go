package kind

import (
	"reflect"
	"testing"

	"colonnade/api"
)

// The chapter's examples, word by word.
func TestExamplesCheck(t *testing.T) {
	a := plain("a", api.Int64)
	w := plain("w", api.Text)
	checked(t, "no fields", of(), api.Fault{})
	checked(t, "A, A", of(a, a), fault(api.ErrTwice, 1))
	checked(t, "a list, then 9x", of(with("l", api.List, a), plain("9x", api.Int8)), fault(api.ErrName, 1))
	checked(t, "an ID twice", of(dict("d", 3, api.Int8, w), dict("e", 3, api.Int8, w)), fault(api.ErrDict, 1))
	for _, x := range []struct {
		f    api.Field
		want api.Fault
	}{
		{with("l", api.List, plain("i", 21)), fault(api.ErrKind, 0)},
		{wide("f", api.Fixed, 17), fault(api.ErrKind)},
		{maybe(with("c", api.Choice, plain("", api.Int8))), fault(api.ErrNull)},
		{dict("d", 0, api.Int8, with("w", api.List, dict("e", 1, api.Int8, plain("x", api.Text)))), fault(api.ErrDict, 0, 0)},
		{dict("d", 0, api.Int8, with("w", api.Runs, plain("v", api.Int8))), fault(api.ErrDict, 0)},
	} {
		if got := CheckField(x.f); !sameFault(got, x.want) {
			t.Errorf("CheckField(%v) = %v", x.f, got)
		}
	}
}

func TestExamplesTypes(t *testing.T) {
	a, v := plain("a", api.Int64), plain("v", api.Int8)
	if Depth(a.Type) != 1 || Depth(with("l", api.List, with("i", api.List, a)).Type) != 3 || Depth(api.Type{Kind: api.List}) != 0 {
		t.Error("Depth")
	}
	if Count(of(a, with("l", api.List, plain("i", api.Int8)))) != 3 {
		t.Error("Count")
	}
	for _, x := range []struct {
		t    api.Type
		want [3]int
	}{
		{api.Type{Kind: api.Text}, [3]int{3, 0, 0}},
		{with("r", api.Runs, v).Type, [3]int{0, 2, 0}},
		{dict("d", 0, api.Int8, v).Type, [3]int{2, 0, 1}},
		{api.Type{}, [3]int{-1, -1, -1}},
	} {
		if b, c, d := Shape(x.t); [3]int{b, c, d} != x.want {
			t.Errorf("Shape(%v) = %d %d %d", x.t, b, c, d)
		}
	}
	if Width(api.Type{Kind: api.Uint16}) != 2 || Width(dict("d", 0, api.Int64, plain("w", api.Text)).Type) != 8 || Width(wide("f", api.Fixed, 5).Type) != 5 || Width(api.Type{Kind: api.Bool}) != 0 {
		t.Error("Width")
	}
}

func TestExamplesWalk(t *testing.T) {
	i, b := plain("i", api.Int8), plain("b", api.Bool)
	l := with("l", api.List, i)
	s := of(l, b)
	if got := walked(s); !reflect.DeepEqual(got, []step{{[]int{0}, l}, {[]int{0, 0}, i}, {[]int{1}, b}}) {
		t.Errorf("Walk gives %v", got)
	}
	if got, e := At(s, []int{0, 0}); got.Name != "i" || e != api.OK {
		t.Errorf("At = %v, %d", got, e)
	}
	if got, e := At(s, []int{0, 1}); got.Name != "" || e != api.ErrRange {
		t.Errorf("At = %v, %d", got, e)
	}
	if got, e := At(s, nil); got.Name != "" || e != api.ErrArg {
		t.Errorf("At = %v, %d", got, e)
	}
}

func TestExamplesText(t *testing.T) {
	s := of(plain("a", api.Int64), maybe(with("b", api.List, maybe(plain("t", api.Text)))))
	s.Notes = []api.Note{{Key: "k", Text: "\"x\"\t"}}
	if got, e := Print(s); got != `a int64, b list(t text?)? | "k" "\"x\"\x09"` || e != api.OK {
		t.Errorf("Print = %s, %d", got, e)
	}
	if got, e := Print(of()); got != "" || e != api.OK {
		t.Errorf("Print of nothing = %q, %d", got, e)
	}
	for _, x := range []struct {
		text string
		e    api.Errno
		at   int
	}{
		{"", api.OK, 0}, {"a int64 b bool", api.ErrForm, 8}, {"a int64, a bool", api.ErrTwice, 9},
		{"a fixed(017)", api.ErrForm, 8}, {"a list()", api.ErrForm, 7}, {`| "k" "a\y"`, api.ErrForm, 8},
	} {
		if got, e, at := Parse(x.text); e != x.e || at != x.at || !reflect.DeepEqual(got, api.Schema{}) {
			t.Errorf("Parse(%q) = %v, %d, %d", x.text, got, e, at)
		}
	}
	want := maybe(with("list", api.List, maybe(plain("list", api.Int8))))
	if got, e, at := ParseField("list list(list int8?)?"); e != api.OK || at != 0 || !reflect.DeepEqual(got, want) {
		t.Errorf("ParseField = %v, %d, %d", got, e, at)
	}
}
