package fold

import (
	"fmt"
	"math"
	"slices"
	"testing"

	"colonnade/api"
	"colonnade/array"
	"colonnade/value"
)

// P18.3: the array's error, then the rows' numbers; with an error nothing is taken in.
func TestFaultsOfAdding(t *testing.T) {
	f := field(t, "a int8?")
	two := data(t, f, "5 null")
	cut := data(t, f, "7 5 null 8")
	cut.Offset, cut.Length, cut.Nulls = 1, 2, 1
	small := api.Data{Length: 3, Buffers: [][]byte{nil, {1, 2}}}
	for _, op := range []int{api.AggCount, api.AggRows, api.AggSum, api.AggMin, api.AggMax, api.AggFirst, api.AggLast} {
		x := foldOf(t, op, f, data(t, f, "1 2"))
		was, _ := x.Value()
		for i, y := range []struct {
			d    api.Data
			rows []int
			e    api.Errno
		}{
			{small, []int{9}, api.ErrSmall},
			{api.Data{}, []int{-1}, api.ErrShape},
			{two, []int{2}, api.ErrRange},
			{two, []int{-1}, api.ErrRange},
			{two, []int{0, 1, 2}, api.ErrRange},
			{two, []int{0, math.MaxInt}, api.ErrRange},
			{two, []int{math.MinInt, 0}, api.ErrRange},
			{cut, []int{0, 2}, api.ErrRange},
			{data(t, f, ""), []int{0}, api.ErrRange},
		} {
			if e := x.AddRows(y.d, y.rows); e != y.e {
				t.Errorf("operation %d, case %d: %d, not %d", op, i, e, y.e)
			}
			holds(t, "behind an error", x, was, api.OK)
		}
		for d, err := range map[*api.Data]api.Errno{&small: api.ErrSmall, {}: api.ErrShape} {
			if e := x.Add(*d); e != err {
				t.Errorf("operation %d: %d, not %d", op, e, err)
			}
		}
		holds(t, "behind an error", x, was, api.OK)
		if e := x.AddRows(two, nil); e != api.OK {
			t.Errorf("no rows: %d", e)
		}
		holds(t, "behind no rows", x, was, api.OK)
	}
}

// P18.3: rows are taken in as they are named, in that order, each as often.
func TestRowsAsNamed(t *testing.T) {
	f := field(t, "a int8?")
	d := data(t, f, "9 5 null 7 9")
	d.Offset, d.Length, d.Nulls = 1, 3, 1
	for _, y := range []struct {
		op   int
		rows []int
		want string
	}{
		{api.AggSum, []int{0, 0, 2, 0}, "22"}, {api.AggSum, []int{1, 1}, "null"}, {api.AggSum, nil, "null"},
		{api.AggCount, []int{0, 1, 0}, "2"}, {api.AggRows, []int{1, 1, 1, 0}, "4"},
		{api.AggFirst, []int{2, 0}, "7"}, {api.AggFirst, []int{1, 0}, "null"}, {api.AggLast, []int{2, 0}, "5"}, {api.AggLast, []int{2, 0, 1}, "null"},
		{api.AggMin, []int{2, 1}, "7"}, {api.AggMin, []int{2, 0, 1, 2}, "5"}, {api.AggMax, []int{0, 2, 0}, "7"}, {api.AggMax, []int{0, 0}, "5"},
	} {
		x := newOf(t, y.op, f)
		if e := x.AddRows(d, y.rows); e != api.OK {
			t.Fatal(e)
		}
		out, _ := Type(y.op, f)
		holds(t, fmt.Sprint(y.op, y.rows), x, values(t, out, y.want)[0], api.OK)
	}
}

// P18.3: there may be far more rows named than there are.
func TestManyRowsNamed(t *testing.T) {
	f := field(t, "a list(i int8)")
	d := data(t, f, "[1] [2,3]")
	for op, want := range map[int]api.Value{api.AggRows: {Num: 100000}, api.AggMax: values(t, f, "[2,3]")[0], api.AggLast: values(t, f, "[1]")[0]} {
		x := newOf(t, op, f)
		if e := x.AddRows(d, append(slices.Repeat([]int{1, 0, 1}, 33333), 0)); e != api.OK {
			t.Fatal(e)
		}
		holds(t, "many rows", x, want, api.OK)
	}
}

// P18.5: Any and All of all lists of up to four of true, false and null.
func TestVerdicts(t *testing.T) {
	f := field(t, "a bool?")
	l := [][]api.Value{nil}
	for range 4 {
		for _, v := range l {
			for _, w := range []api.Value{{}, {Num: 1}, null} {
				l = append(l, append(v[:len(v):len(v)], w))
			}
		}
	}
	for _, v := range l {
		for _, op := range []int{api.AggAny, api.AggAll} {
			want, err := modelValue(op, f, v)
			holds(t, fmt.Sprint(op, v), foldOf(t, op, f, formOf(t, f, v)), want, err)
		}
	}
}

// P18.5: the least and the greatest value by the order of values: numbers without a sign, all floating-point numbers, texts by their bytes, lists, nulls within.
func TestExtremes(t *testing.T) {
	for _, x := range []struct{ f, texts, least, most string }{
		{"int8", "3 -128 127 0", "-128", "127"},
		{"uint64", "9223372036854775808 1 18446744073709551615 9223372036854775807", "1", "18446744073709551615"},
		{"float64", "0p0 -0p0", "-0p0", "0p0"},
		{"float64", "inf nan0000000000001 -inf -nan0000000000001 1p0", "-nan0000000000001", "nan0000000000001"},
		{"float64?", "null 1p0 -1p0 null", "-1p0", "1p0"},
		{"bool", "true false true", "false", "true"},
		{"null?", "null null", "null", "null"},
		{"text?", `"b" null "ab" "a" "é" "z"`, `"a"`, `"é"`},
		{"bytes", `x"ff" x"00ff" x""`, `x""`, `x"ff"`},
		{"fixed(2)", `x"0aff" x"0b00"`, `x"0aff"`, `x"0b00"`},
		{"list(i int8?)", "[1] [1,null] [] [null,5] [0]", "[]", "[1,null]"},
		{"span(2, i int8?)", "[1,2] [1,null] [0,9]", "[0,9]", "[1,2]"},
		{"struct(x int8, y text)?", `{x:1,y:"b"} null {x:1,y:"a"} {x:0,y:"c"}`, `{x:0,y:"c"}`, `{x:1,y:"b"}`},
		{"list(c choice(x int8, y bool))", "[x(5)] [y(false)] [x(9)]", "[x(5)]", "[y(false)]"},
		{"dict(0, int8, w text)?", `"b" null "a" "b"`, `"a"`, `"b"`},
		{"runs(v dict(0, uint8, w uint64)?)?", "18446744073709551615 null 5 5", "5", "18446744073709551615"},
		{"list(i dict(0, int8, w text)?)", `["a"] [null] ["a","b"]`, "[null]", `["a","b"]`},
	} {
		f := field(t, "a "+x.f)
		for op, want := range map[int]string{api.AggMin: x.least, api.AggMax: x.most} {
			out, _ := Type(op, f)
			l := values(t, f, x.texts)
			for range l {
				l = append(l[1:], l[0])
				holds(t, x.f, foldOf(t, op, f, formOf(t, f, l)), values(t, out, want)[0], api.OK)
			}
		}
	}
}

// P18.3, P18.5, P18.6: any values of any fields, cut into any pieces that lie anyhow, come to what the table says; and what they come to fits the field that Type tells.
func TestAnyFolds(t *testing.T) {
	c := newChance(2)
	done, told := map[int]int{}, map[api.Errno]int{}
	for range 12000 {
		op, f := c.call()
		l := c.column(f, c.Intn(9))
		want, err := modelValue(op, f, l)
		for range 2 {
			x := newOf(t, op, f)
			c.take(t, x, f, l)
			holds(t, fmt.Sprint(op, f, l), x, want, err)
			holds(t, "told again", x, want, err)
			out, _ := Type(op, f)
			if v, e := x.Value(); e == api.OK && value.Fits(out, v) != api.OK {
				t.Fatalf("%v does not fit %v", v, out)
			}
		}
		told[err]++
		done[op]++
	}
	for _, op := range operations() {
		if done[op] < 300 {
			t.Errorf("operation %d only %d times", op, done[op])
		}
	}
	if told[api.ErrOverflow] < 100 {
		t.Errorf("ErrOverflow only %d times", told[api.ErrOverflow])
	}
}

// P18.6: but for First and Last the order doesn't count.
func TestAnyOrder(t *testing.T) {
	c := newChance(3)
	for range 4000 {
		op, f := c.call()
		if op == api.AggFirst || op == api.AggLast {
			continue
		}
		l := c.column(f, c.Intn(9))
		want, err := foldOf(t, op, f, formOf(t, f, l)).Value()
		c.Shuffle(len(l), func(i, j int) { l[i], l[j] = l[j], l[i] })
		holds(t, fmt.Sprint(op, f, l), foldOf(t, op, f, formOf(t, f, l)), want, err)
	}
}

// P18.3: what is none of the field's arrays is told by array's error, by both calls, and nothing is taken in.
func TestAnyHurtArrays(t *testing.T) {
	c := newChance(4)
	hurt := 0
	for range 12000 {
		op, f := c.call()
		x := newOf(t, op, f)
		c.take(t, x, f, c.column(f, c.Intn(3)))
		was, err := x.Value()
		d := c.anyhow(t, f, c.column(f, c.Intn(5)))
		c.hurtArray(&d)
		fault := array.Check(f, d)
		if fault.Err == api.OK {
			continue
		}
		hurt++
		if e := x.Add(d); e != fault.Err {
			t.Fatalf("Add: %d, not %d", e, fault.Err)
		}
		if e := x.AddRows(d, []int{-1}); e != fault.Err {
			t.Fatalf("AddRows: %d, not %d", e, fault.Err)
		}
		holds(t, "behind an error", x, was, err)
	}
	if hurt < 1000 {
		t.Errorf("only %d", hurt)
	}
}
