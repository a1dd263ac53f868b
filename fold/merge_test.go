package fold

import (
	"fmt"
	"math"
	"slices"
	"testing"

	"colonnade/api"
)

// P18.4: another operation, or a field that isn't alike; names don't count, but those within do.
func TestUnlike(t *testing.T) {
	bools, one := field(t, "a bool?"), field(t, "a int8")
	for _, p := range operations() {
		for _, q := range operations() {
			f := bools
			if p == api.AggSum || q == api.AggSum {
				f = one
			}
			x, e1 := New(p, f)
			o, e2 := New(q, f)
			if e1 != api.OK || e2 != api.OK {
				continue
			}
			want := api.OK
			if p != q {
				want = api.ErrUnlike
			}
			if e := x.Merge(o); e != want {
				t.Errorf("operations %d and %d: %d", p, q, e)
			}
		}
	}
	for _, y := range []struct {
		f, g string
		e    api.Errno
	}{
		{"a int8", "b int8", api.OK}, {"a int8", "a int8?", api.ErrUnlike}, {"a int8", "a int16", api.ErrUnlike}, {"a int8", "a runs(v int8)", api.ErrUnlike}, {"a int8", "a dict(0, int8, w int8)", api.ErrUnlike},
		{"a dict(0, int8, w int8)", "z dict(0, int8, w int8)", api.OK}, {"a dict(0, int8, w int8)", "a dict(1, int8, w int8)", api.ErrUnlike}, {"a dict(0, int8, w int8)", "a dict(0, uint8, w int8)", api.ErrUnlike},
		{"a list(i int8)", "a list(j int8)", api.ErrUnlike}, {"a list(i int8)", "b list(i int8)", api.OK}, {"a fixed(1)", "a fixed(2)", api.ErrUnlike},
	} {
		for _, op := range []int{api.AggCount, api.AggRows, api.AggMin, api.AggLast} {
			x, o := newOf(t, op, field(t, y.f)), newOf(t, op, field(t, y.g))
			if e := x.Merge(o); e != y.e {
				t.Errorf("%s and %s: %d, not %d", y.f, y.g, e, y.e)
			}
		}
	}
}

// P18.4: with an error nothing is taken in.
func TestUnlikeTakesNothing(t *testing.T) {
	f := field(t, "a int8?")
	for _, op := range []int{api.AggCount, api.AggRows, api.AggSum, api.AggMin, api.AggMax, api.AggFirst, api.AggLast} {
		x, o := foldOf(t, op, f, data(t, f, "1 null")), foldOf(t, op, field(t, "a int8"), data(t, field(t, "a int8"), "0 5"))
		was, _ := x.Value()
		if e := x.Merge(o); e != api.ErrUnlike {
			t.Fatal(e)
		}
		holds(t, "behind an error", x, was, api.OK)
	}
}

// P18.4, P18.6: any pieces, merged in any brackets, are as taken in behind each other; what is merged stays as it is.
func TestAnyMerges(t *testing.T) {
	c := newChance(7)
	for range 6000 {
		op, f := c.call()
		var all []api.Value
		var l []*Fold
		for range 1 + c.Intn(5) {
			piece := c.column(f, c.Intn(4))
			x := newOf(t, op, f)
			c.take(t, x, f, piece)
			l, all = append(l, x), append(all, piece...)
		}
		for len(l) > 1 {
			i := c.Intn(len(l) - 1)
			was, err := l[i+1].Value()
			if e := l[i].Merge(l[i+1]); e != api.OK {
				t.Fatal(e)
			}
			holds(t, "what was merged", l[i+1], was, err)
			l = slices.Delete(l, i+1, i+2)
		}
		want, err := modelValue(op, f, all)
		holds(t, fmt.Sprint(op, f, all), l[0], want, err)
	}
}

// P18.4: one that is merged with itself has all of its values twice.
func TestMergedWithItself(t *testing.T) {
	c := newChance(8)
	for range 3000 {
		op, f := c.call()
		l := c.column(f, c.Intn(4))
		x := newOf(t, op, f)
		c.take(t, x, f, l)
		for range 3 {
			if e := x.Merge(x); e != api.OK {
				t.Fatal(e)
			}
			l = slices.Concat(l, l)
			want, err := modelValue(op, f, l)
			holds(t, fmt.Sprint(op, f, l), x, want, err)
		}
	}
}

// doubled is an aggregate of one value, so often merged with itself.
func doubled(t *testing.T, op int, f api.Field, text string, times int) *Fold {
	t.Helper()
	x := foldOf(t, op, f, data(t, f, text))
	for range times {
		if e := x.Merge(x); e != api.OK {
			t.Fatal(e)
		}
	}
	return x
}

// full is an aggregate of so many values as it may take in, of one value.
func full(t *testing.T, op int, f api.Field, text string) *Fold {
	t.Helper()
	x := newOf(t, op, f)
	for k := range 31 {
		if e := x.Merge(doubled(t, op, f, text, k)); e != api.OK {
			t.Fatal(e)
		}
	}
	return x
}

// P18.3, P18.4: at most 2147483647 values are taken in; one more is refused by all three calls, behind their other errors, and nothing is taken in.
func TestMostValues(t *testing.T) {
	f := field(t, "a int8?")
	two := data(t, f, "5 6")
	for op, want := range map[int]int64{api.AggCount: math.MaxInt32, api.AggRows: math.MaxInt32, api.AggSum: math.MaxInt32 * 127, api.AggMin: 127, api.AggMax: 127, api.AggFirst: 127, api.AggLast: 127} {
		x := full(t, op, f, "127")
		hold := func(what string, got, err api.Errno) {
			t.Helper()
			if got != err {
				t.Errorf("operation %d, %s: %d, not %d", op, what, got, err)
			}
			holds(t, what, x, api.Value{Num: want}, api.OK)
		}
		hold("Add", x.Add(data(t, f, "5")), api.ErrRange)
		hold("Add of nulls", x.Add(data(t, f, "null")), api.ErrRange)
		hold("Add of none", x.Add(data(t, f, "")), api.OK)
		hold("Add of no array", x.Add(api.Data{}), api.ErrShape)
		hold("AddRows", x.AddRows(two, []int{1}), api.ErrRange)
		hold("AddRows of none", x.AddRows(two, nil), api.OK)
		hold("AddRows of no array", x.AddRows(api.Data{Length: 1, Buffers: [][]byte{nil, nil}}, []int{0}), api.ErrSmall)
		hold("Merge", x.Merge(foldOf(t, op, f, data(t, f, "5"))), api.ErrRange)
		hold("Merge of none", x.Merge(newOf(t, op, f)), api.OK)
		hold("Merge with itself", x.Merge(x), api.ErrRange)
		hold("Merge of unlike ones", x.Merge(foldOf(t, op, field(t, "a int8"), data(t, field(t, "a int8"), "5"))), api.ErrUnlike)
	}
}

// P18.3: just so many as there is room for are taken in; not some of them, if there is room for some.
func TestLastRoom(t *testing.T) {
	f := field(t, "a uint8?")
	d := data(t, f, "5 null 7")
	x := newOf(t, api.AggRows, f)
	for k := 1; k < 31; k++ {
		if e := x.Merge(doubled(t, api.AggRows, f, "1", k)); e != api.OK {
			t.Fatal(e)
		}
	}
	// 2^31 - 2 values.
	for what, e := range map[string]api.Errno{"Add": x.Add(d), "AddRows": x.AddRows(d, []int{0, 1}), "Merge": x.Merge(foldOf(t, api.AggRows, f, d))} {
		if e != api.ErrRange {
			t.Errorf("%s: %d", what, e)
		}
	}
	holds(t, "2^31 - 2", x, api.Value{Num: math.MaxInt32 - 1}, api.OK)
	if e := x.AddRows(d, []int{1}); e != api.OK {
		t.Error(e)
	}
	holds(t, "2^31 - 1", x, api.Value{Num: math.MaxInt32}, api.OK)
}

// P18.5: sums of as many numbers as may be taken in are exact: they go beyond 64 bits, and beyond the greatest floating-point number, and come back.
func TestSumsOfMostValues(t *testing.T) {
	half := func(f api.Field, text string) *Fold { return doubled(t, api.AggSum, f, text, 29) }
	f := field(t, "a int64")
	for _, p := range [][2]string{{"9223372036854775807", "-9223372036854775807"}, {"-9223372036854775808", "9223372036854775807"}} {
		x := half(f, p[0])
		holds(t, "far", x, api.Value{}, api.ErrOverflow)
		if e := x.Merge(half(f, p[1])); e != api.OK {
			t.Fatal(e)
		}
		want := int64(0)
		if p[0][0] == '-' {
			want = -1 << 29
		}
		holds(t, "back", x, api.Value{Num: want}, api.OK)
	}
	holds(t, "full", full(t, api.AggSum, field(t, "a uint64"), "18446744073709551615"), api.Value{}, api.ErrOverflow)

	g := field(t, "a float64")
	x := half(g, "9007199254740991p971")
	holds(t, "far", x, api.Value{Num: infinity}, api.OK)
	for _, o := range []*Fold{foldOf(t, api.AggSum, g, data(t, g, "1p-1074")), half(g, "-9007199254740991p971")} {
		if e := x.Merge(o); e != api.OK {
			t.Fatal(e)
		}
	}
	holds(t, "back", x, api.Value{Num: 1}, api.OK)
}
