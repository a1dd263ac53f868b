package fold

import (
	"math"
	"testing"

	"colonnade/api"
)

// The chapter's examples of Type.
func TestExamplesOfTypes(t *testing.T) {
	for _, x := range []struct {
		op       int
		from, to string
		e        api.Errno
	}{
		{api.AggSum, "a dict(0, int8, v uint8)?", "a uint64?", api.OK},
		{api.AggMin, "a list(i dict(0, int8, w text)?)", "a list(i text?)?", api.OK},
		{api.AggSum, "a bool", "", api.ErrType},
		{api.AggAny, "a int8", "", api.ErrType},
		{api.AggMax, "a choice(x int8)", "", api.ErrType},
		{0, "a int8", "", api.ErrArg},
		{10, "a int8", "", api.ErrArg},
	} {
		var want api.Field
		if x.e == api.OK {
			want = field(t, x.to)
		}
		f, e := Type(x.op, field(t, x.from))
		sameField(t, x.from, f, e, want, x.e)
	}
}

// The chapter's examples of values that are told as texts.
func TestExamplesOfValues(t *testing.T) {
	for _, x := range []struct {
		op             int
		f, texts, want string
		e              api.Errno
	}{
		{api.AggCount, "int8?", "1 null 3", "2", api.OK},
		{api.AggRows, "int8?", "1 null 3", "3", api.OK},
		{api.AggSum, "int8", "127 127", "254", api.OK},
		{api.AggSum, "int8", "", "null", api.OK},
		{api.AggSum, "int8?", "null", "null", api.OK},
		{api.AggSum, "int64", "9223372036854775807 1", "", api.ErrOverflow},
		{api.AggSum, "int64", "9223372036854775807 1 -1", "9223372036854775807", api.OK},
		{api.AggSum, "uint64", "9223372036854775808 9223372036854775807", "18446744073709551615", api.OK},
		{api.AggSum, "float64", "1p1023 1p1023 -1p1023", "1p1023", api.OK},
		{api.AggSum, "float64", "1p0 1p-60 -1p0", "1p-60", api.OK},
		{api.AggSum, "float64", "-0p0 -0p0", "-0p0", api.OK},
		{api.AggSum, "float64", "-0p0 0p0", "0p0", api.OK},
		{api.AggSum, "float64", "1p0 -1p0", "0p0", api.OK},
		{api.AggSum, "float64", "inf 1p0", "inf", api.OK},
		{api.AggSum, "float64", "inf -inf", "nan8000000000000", api.OK},
		{api.AggSum, "float64", "nan0000000000001", "nan8000000000000", api.OK},
		{api.AggMin, "text", `"b" "a" "b"`, `"a"`, api.OK},
		{api.AggMax, "text", `"b" "a" "b"`, `"b"`, api.OK},
		{api.AggFirst, "int8?", "null 2", "null", api.OK},
		{api.AggLast, "int8?", "null 2", "2", api.OK},
		{api.AggAny, "bool?", "true null", "true", api.OK},
		{api.AggAll, "bool?", "true null", "null", api.OK},
		{api.AggAny, "bool", "", "false", api.OK},
		{api.AggAll, "bool", "", "true", api.OK},
	} {
		f := field(t, "a "+x.f)
		var want api.Value
		if x.e == api.OK {
			out, _ := Type(x.op, f)
			want = values(t, out, x.want)[0]
		}
		holds(t, x.f+" "+x.texts, foldOf(t, x.op, f, data(t, f, x.texts)), want, x.e)
	}
}

// The chapter's examples of what is taken in later.
func TestExamplesOfPieces(t *testing.T) {
	f := field(t, "a int64")
	x := foldOf(t, api.AggSum, f, data(t, f, "9223372036854775807 1"))
	holds(t, "2^63", x, api.Value{}, api.ErrOverflow)
	if e := x.Add(data(t, f, "-1")); e != api.OK {
		t.Fatal(e)
	}
	holds(t, "2^63 - 1", x, api.Value{Num: math.MaxInt64}, api.OK)
	for op, want := range map[int]int64{api.AggFirst: 1, api.AggLast: 3} {
		x, o := foldOf(t, op, f, data(t, f, "1 2")), foldOf(t, op, f, data(t, f, "3"))
		if e := x.Merge(o); e != api.OK {
			t.Fatal(e)
		}
		holds(t, "merged", x, api.Value{Num: want}, api.OK)
	}
}

// The document's sixth example of the whole, in one piece and in two.
func TestExampleOfTheWhole(t *testing.T) {
	f := field(t, "a int64")
	for _, pieces := range [][]string{{"9223372036854775807 1 -1"}, {"9223372036854775807 1", "-1"}, {"9223372036854775807", "1 -1"}} {
		x := newOf(t, api.AggSum, f)
		for _, p := range pieces {
			if e := x.Merge(foldOf(t, api.AggSum, f, data(t, f, p))); e != api.OK {
				t.Fatal(e)
			}
		}
		holds(t, "2^63 - 1", x, api.Value{Num: math.MaxInt64}, api.OK)
	}
}
