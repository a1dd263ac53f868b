package fold

import (
	"fmt"
	"math"
	"testing"

	"colonnade/api"
)

// numbers are the values of numbers.
func numbers(l ...int64) []api.Value {
	var v []api.Value
	for _, n := range l {
		v = append(v, api.Value{Num: n})
	}
	return v
}

// P18.5: sums of whole numbers are exact, however far they go in between.
func TestWholeSums(t *testing.T) {
	const least, most = math.MinInt64, math.MaxInt64
	for _, x := range []struct {
		f    string
		l    []int64
		want int64
		e    api.Errno
	}{
		{"int64", []int64{most, most, least, least}, -2, api.OK},
		{"int64", []int64{least, -1}, 0, api.ErrOverflow},
		{"int64", []int64{least, -1, 1}, least, api.OK},
		{"int64", []int64{most, 1}, 0, api.ErrOverflow},
		{"int64", []int64{least, least, most, most, 1, 1, most}, most, api.OK},
		{"int64", []int64{least, least, most, most, 1, 1, most, 1}, 0, api.ErrOverflow},
		{"int64", []int64{-1, 1}, 0, api.OK},
		{"int8", []int64{-128, -128, -1}, -257, api.OK},
		{"int16", []int64{1<<15 - 1, 1<<15 - 1}, 1<<16 - 2, api.OK},
		{"int32", []int64{-1 << 31, -1 << 31}, -1 << 32, api.OK},
		{"uint8", []int64{255, 255}, 510, api.OK},
		{"uint16", []int64{65535, 1}, 65536, api.OK},
		{"uint32", []int64{1<<32 - 1, 1<<32 - 1}, 1<<33 - 2, api.OK},
		{"uint64", []int64{-1, 0}, -1, api.OK},
		{"uint64", []int64{-1, 1}, 0, api.ErrOverflow},
		{"uint64", []int64{-1, -1, 2}, 0, api.ErrOverflow},
		{"uint64", []int64{most, most, 1}, -1, api.OK},
		{"uint64", []int64{0}, 0, api.OK},
	} {
		f := field(t, "a "+x.f)
		holds(t, fmt.Sprint(x.f, x.l), foldOf(t, api.AggSum, f, formOf(t, f, numbers(x.l...))), api.Value{Num: x.want}, x.e)
	}
}

// P18.5: sums of many numbers of the edges of all kinds, a piece added behind the other, hold at each point, ErrOverflow or not.
func TestWholeSumsOnTheWay(t *testing.T) {
	c := newChance(5)
	told := map[api.Errno]int{}
	for k := api.Int8; k <= api.Uint64; k++ {
		f := api.Field{Name: "a", Nullable: true, Type: api.Type{Kind: k}}
		for range 60 {
			x := newOf(t, api.AggSum, f)
			var l []api.Value
			for range 30 {
				piece := c.column(f, c.Intn(3))
				l = append(l, piece...)
				if e := x.Add(formOf(t, f, piece)); e != api.OK {
					t.Fatal(e)
				}
				want, err := modelValue(api.AggSum, f, l)
				holds(t, fmt.Sprint(k, l), x, want, err)
				told[err]++
			}
		}
	}
	if told[api.OK] < 1000 || told[api.ErrOverflow] < 500 {
		t.Errorf("%v", told)
	}
}

// P18.5: sums of floating-point numbers about which something changes, by twos and threes.
func TestFloatSums(t *testing.T) {
	f := field(t, "a float64")
	for _, a := range odd {
		for _, b := range odd {
			for _, z := range []uint64{signBit, 1, 0x3ca << 52, 0x7ca << 52, signBit | 0x7c9<<52, infinity - 1, signBit | infinity} {
				l := numbers(int64(a), int64(b), int64(z))
				holds(t, fmt.Sprintf("%x + %x + %x", a, b, z), foldOf(t, api.AggSum, f, formOf(t, f, l)), api.Value{Num: int64(modelFloats(l))}, api.OK)
			}
			l := numbers(int64(a), int64(b))
			holds(t, fmt.Sprintf("%x + %x", a, b), foldOf(t, api.AggSum, f, formOf(t, f, l)), api.Value{Num: int64(modelFloats(l))}, api.OK)
		}
	}
}

// P18.5: rounded once, at the end: of halves to the even one, by however little above or below them otherwise.
func TestRoundedOnce(t *testing.T) {
	f := field(t, "a float64")
	for _, x := range []struct {
		texts, want string
	}{
		{"1p53 1p0", "1p53"},
		{"1p53 1p0 1p-1074", "4503599627370497p1"},
		{"1p53 3p0 -1p-1074", "4503599627370497p1"},
		{"1p53 3p0", "2251799813685249p2"},
		{"1p53 1p0 1p0", "4503599627370497p1"},
		{"9007199254740991p971 1p970", "inf"},
		{"9007199254740991p971 1p970 -1p-1074", "9007199254740991p971"},
		{"-9007199254740991p971 -1p970", "-inf"},
		{"-9007199254740991p971 -1p970 1p-1074", "-9007199254740991p971"},
		{"1p1023 1p1023", "inf"},
		{"1p-1074 1p-1074 -1p-1074", "1p-1074"},
		{"1p1023 1p-1074 -1p1023", "1p-1074"},
		{"inf 1p0 nan8000000000001", "nan8000000000000"},
		{"-inf -1p1023 -1p1023", "-inf"},
		{"1p1023 1p1023 -inf", "-inf"},
		{"-nan8000000000000", "nan8000000000000"},
		{"-0p0 -0p0 1p-1074 -1p-1074 -0p0", "0p0"},
		{"-0p0", "-0p0"},
	} {
		want := modelFloats(values(t, f, x.want))
		if got := modelFloats(values(t, f, x.texts)); got != want {
			t.Fatalf("the model: %s: %x, not %x", x.texts, got, want)
		}
		holds(t, x.texts, foldOf(t, api.AggSum, f, data(t, f, x.texts)), api.Value{Num: int64(want)}, api.OK)
	}
}

// P18.5, P18.6: sums of many floating-point numbers, whose parts go far beyond what comes out, in any order and any pieces.
func TestAnyFloatSums(t *testing.T) {
	c := newChance(6)
	f := field(t, "a float64?")
	finite := 0
	for range 3000 {
		l := c.column(f, c.Intn(20))
		for i := range l {
			// Mostly finite ones, some of them taken away again.
			if x := uint64(l[i].Num) &^ signBit; x >= infinity && !c.in(20) {
				l[i].Num = int64(c.Uint64() &^ (1 << 62))
			}
			if c.in(3) && !l[i].Null {
				l = append(l, api.Value{Num: l[i].Num ^ math.MinInt64})
			}
		}
		c.Shuffle(len(l), func(i, j int) { l[i], l[j] = l[j], l[i] })
		want, err := modelValue(api.AggSum, f, l)
		x := newOf(t, api.AggSum, f)
		c.take(t, x, f, l)
		holds(t, fmt.Sprint(l), x, want, err)
		if uint64(want.Num)&^signBit < infinity {
			finite++
		}
	}
	if finite < 1000 {
		t.Errorf("only %d are finite", finite)
	}
}
