package calc

import (
	"fmt"
	"slices"
	"strings"
	"testing"

	"colonnade/api"
	"colonnade/array"
	"colonnade/build"
	"colonnade/value"
)

// repeated is a Dict with an index of one byte a row, and a dictionary.
func repeated(values api.Data, indices ...byte) api.Data {
	return api.Data{Length: len(indices), Buffers: [][]byte{nil, indices}, Dict: []api.Data{values}}
}

// P17.2: which fault is told first: the number of arrays, the operation, the fields, the arrays in their order, their lengths, the rows.
func TestFaultsInOrder(t *testing.T) {
	two, bad := fields(t, "int8", "int8"), []api.Field{{}, {}}
	three := fields(t, "bool", "int8", "int8")
	none, zero, zeros := api.Data{}, data(t, two[0], "0"), data(t, two[0], "0 0")
	long := api.Data{Length: 1, Offset: -1, Buffers: [][]byte{nil, nil}}
	small := api.Data{Length: 1, Buffers: [][]byte{nil, nil}}
	for i, x := range []struct {
		op int
		l  []api.Field
		d  []api.Data
		e  api.Errno
	}{
		{api.OpNone, bad, []api.Data{none}, api.ErrArg},
		{api.OpAdd, bad, []api.Data{none}, api.ErrArg},
		{api.OpAdd, bad, []api.Data{none, none, none}, api.ErrArg},
		{api.OpAdd, two, nil, api.ErrArg},
		{api.OpNone, bad, []api.Data{none, none}, api.ErrArg},
		{api.OpNone, nil, nil, api.ErrArg},
		{api.OpCast, two[:1], []api.Data{zero}, api.ErrArg},
		{api.OpNeg, bad, []api.Data{none, none}, api.ErrArg},
		{api.OpAdd, bad, []api.Data{none, none}, api.ErrType},
		{api.OpAdd, fields(t, "int8", "int16"), []api.Data{none, none}, api.ErrType},
		{api.OpIf, two[:2], []api.Data{zero, zero}, api.ErrArg},
		{api.OpAdd, two, []api.Data{none, long}, api.ErrShape},
		{api.OpAdd, two, []api.Data{long, none}, api.ErrLength},
		{api.OpAdd, two, []api.Data{zeros, small}, api.ErrSmall},
		{api.OpAdd, two, []api.Data{small, zeros}, api.ErrSmall},
		{api.OpIf, three, []api.Data{data(t, three[0], "true true"), zero, none}, api.ErrShape},
		{api.OpDiv, two, []api.Data{zero, zeros}, api.ErrUnlike},
		{api.OpDiv, two, []api.Data{zeros, zero}, api.ErrUnlike},
		{api.OpDiv, two, []api.Data{data(t, two[0], ""), zero}, api.ErrUnlike},
		{api.OpIf, three, []api.Data{data(t, three[0], "true"), zero, zeros}, api.ErrUnlike},
		{api.OpIf, three, []api.Data{data(t, three[0], "true"), zeros, zero}, api.ErrUnlike},
		{api.OpIf, three, []api.Data{data(t, three[0], "true true"), zero, zero}, api.ErrUnlike},
		{api.OpDiv, two, []api.Data{zeros, zeros}, api.ErrZero},
	} {
		same(t, fmt.Sprint("case ", i), doOf(x.op, x.l, x.d...), answer{e: x.e})
	}
}

// P17.2: rows count from 0 on, the Offset beside; those around them aren't looked at.
func TestRowsOfCuts(t *testing.T) {
	l := fields(t, "int8?", "int8")
	a, b := data(t, l[0], "127 1 null 126 3"), data(t, l[1], "0 0 1 0 0 127 2 2 127")
	a.Offset, a.Length, a.Nulls = 1, 3, 1
	b.Offset, b.Length = 4, 3
	same(t, "Add", doOf(api.OpAdd, l, a, b), answer{e: api.ErrOverflow, at: 2})
	a.Length, b.Length = 2, 2
	same(t, "Add", doOf(api.OpAdd, l, a, b), answer{d: data(t, l[0], "1 null")})
}

// P17.2: no rows come out of no rows.
func TestNoRows(t *testing.T) {
	for _, op := range operations() {
		for _, s := range samples {
			types := slices.Repeat([]string{s}, modelRule(op).args)
			if op == api.OpIf {
				types[0] = "bool"
			}
			l := fields(t, types...)
			f, e := Type(op, l)
			if e != api.OK {
				continue
			}
			var d []api.Data
			for _, g := range l {
				d = append(d, formOf(t, g, nil))
			}
			same(t, fmt.Sprint(op, s), doOf(op, l, d...), answer{d: formOf(t, f, nil)})
		}
	}
}

// P17.2: what the building refuses, with the number of the row that meets the limit.
func TestLimitsOfBytes(t *testing.T) {
	l := fields(t, "text?", "text?")
	a, b := text(strings.Repeat("a", 40000)), text(strings.Repeat("b", 25536))
	one := func(v ...api.Value) api.Data { return formOf(t, l[0], v) }
	got := doOf(api.OpGlue, l, one(a, text("")), one(b, text("")))
	same(t, "65536 bytes", got, answer{d: one(text(a.Text+b.Text), text(""))})
	same(t, "65537 bytes", doOf(api.OpGlue, l, one(a, text(""), text("x")), one(b, text(""), text(""))), answer{e: api.ErrBytes, at: 2})
	same(t, "one row", doOf(api.OpGlue, l, one(null, a), one(text("y"), text(b.Text+"x"))), answer{e: api.ErrBytes, at: 1})

	// A dictionary's text lies there once, and once a row where there is none.
	words := fields(t, "dict(0, int8, w text)", "dict(1, int8, w text)")
	d := repeated(formOf(t, field(t, "w text"), []api.Value{a, text("")}), 1, 0, 1, 0)
	same(t, "Else of a Dict", doOf(api.OpElse, words, d, d), answer{e: api.ErrBytes, at: 3})
	on := field(t, "c bool")
	same(t, "If of a Dict", doOf(api.OpIf, append([]api.Field{on}, words...), data(t, on, "true false true true"), d, d), answer{e: api.ErrBytes, at: 3})
	same(t, "Eq of a Dict", doOf(api.OpEq, words, d, d), answer{d: data(t, on, "true true true true")})
}

// P17.2: the limits of rows and of weight.
func TestLimitsOfRows(t *testing.T) {
	runs := field(t, "a runs(v list(i int8))")
	long := list(make([]api.Value, 3000)...)
	d := formOf(t, runs, []api.Value{long, long})
	same(t, "6000 items", doOf(api.OpElse, []api.Field{runs, runs}, d, d), answer{e: api.ErrRows, at: 1})
	same(t, "their numbers", doOf(api.OpLen, []api.Field{runs}, d), answer{d: data(t, field(t, "a int64"), "3000 3000")})

	// A null Span takes as much room as one that isn't.
	spans := field(t, "a dict(0, int8, w span(64, i span(64, j int8)))?")
	d = data(t, spans, "null null")
	same(t, "two nulls", doOf(api.OpElse, []api.Field{spans, spans}, d, d), answer{e: api.ErrRows, at: 1})
	d = data(t, spans, "null")
	same(t, "one null", doOf(api.OpElse, []api.Field{spans, spans}, d, d), answer{d: data(t, field(t, "a span(64, i span(64, j int8))?"), "null")})
}

// P17.2: rows of two arrays, each light enough, may be too heavy together.
func TestLimitsOfWeight(t *testing.T) {
	f := field(t, "a list(i dict(0, int8, w list(j int8)))")
	items := repeated(formOf(t, field(t, "w list(j int8)"), []api.Value{list(make([]api.Value, 4096)...)}), make([]byte, 63)...)
	first := api.Data{Length: 2, Buffers: [][]byte{nil, {0, 0, 0, 0, 63, 0, 0, 0, 63, 0, 0, 0}}, Children: []api.Data{items}}
	second := api.Data{Length: 2, Buffers: [][]byte{nil, {0, 0, 0, 0, 0, 0, 0, 0, 63, 0, 0, 0}}, Children: []api.Data{items}}
	on := field(t, "c bool")
	l := []api.Field{on, f, f}
	same(t, "too heavy", doOf(api.OpIf, l, data(t, on, "true false"), first, second), answer{e: api.ErrRows, at: 1})
	form, e := build.Form(f, first)
	if e != api.OK {
		t.Fatal(e)
	}
	same(t, "as heavy as one", doOf(api.OpIf, l, data(t, on, "true true"), first, second), answer{d: form})
}

// P17.2, P17.3, P17.5: any operations of any arrays, however they lie, are as the chapter's words tell them of what they denote.
func TestAnyArrays(t *testing.T) {
	c := newChance(4)
	told := map[api.Errno]int{}
	done := map[int]int{}
	for range 12000 {
		op, l := c.call()
		if slices.ContainsFunc(l, mayNotBe) {
			same(t, "Do", doOf(op, l, make([]api.Data, len(l))...), answer{e: modelError(op, l)})
			continue
		}
		columns := c.columns(l)
		want := modelDo(op, l, columns)
		got := doOf(op, l, c.arrays(t, l, columns)...)
		same(t, fmt.Sprint(op, l, columns), got, want)
		same(t, "laid otherwise", doOf(op, l, c.arrays(t, l, columns)...), want)
		if f, _ := Type(op, l); got.e == api.OK && !build.IsForm(f, got.d) {
			t.Fatal("an answer is not in build form")
		}
		told[got.e]++
		if got.e == api.OK && got.d.Length > 0 {
			done[op]++
		}
	}
	for _, e := range []api.Errno{api.OK, api.ErrType, api.ErrArg, api.ErrOverflow, api.ErrZero} {
		if told[e] < 100 {
			t.Errorf("%d only %d times", e, told[e])
		}
	}
	for _, op := range operations() {
		if done[op] < 100 {
			t.Errorf("operation %d only %d times", op, done[op])
		}
	}
}

// modelError is Type's error.
func modelError(op int, l []api.Field) api.Errno {
	_, e := modelType(op, l)
	return e
}

// P17.2: an array that is none of its field is told by array's error, and by no number: the first one in order, and ahead of lengths that differ.
func TestAnyHurtArrays(t *testing.T) {
	c := newChance(5)
	hurt := 0
	for range 12000 {
		op, l := c.call()
		if modelError(op, l) != api.OK {
			continue
		}
		d := c.arrays(t, l, c.columns(l))
		for k := range d {
			if c.in(2) {
				c.hurtArray(&d[k])
			}
		}
		var e api.Errno
		for k, f := range l {
			if x := array.Check(f, d[k]); e == api.OK {
				e = x.Err
			}
		}
		if e == api.OK && len(d) > 1 && slices.ContainsFunc(d, func(x api.Data) bool { return x.Length != d[0].Length }) {
			e = api.ErrUnlike
		}
		if e != api.OK {
			hurt++
			same(t, fmt.Sprint(op, l), doOf(op, l, d...), answer{e: e})
		}
	}
	if hurt < 1000 {
		t.Errorf("only %d", hurt)
	}
}

// hurtArray changes one thing of an array, so that it may be none of its field.
func (c *chance) hurtArray(x *api.Data) {
	for len(x.Children) > 0 && !c.in(3) {
		x = &x.Children[c.Intn(len(x.Children))]
	}
	switch n := len(x.Buffers); c.Intn(4) {
	case 0:
		x.Length += c.Intn(9) - 4
	case 1:
		x.Nulls++
	case 2:
		x.Children, x.Dict = x.Dict, x.Children
	default:
		if n > 0 {
			b := x.Buffers[c.Intn(n)]
			x.Buffers[c.Intn(n)] = b[:c.Intn(len(b)+1)]
		}
	}
}

// denoted tells the values that an answer denotes.
func denoted(t testing.TB, op int, l []api.Field, got answer) []api.Value {
	t.Helper()
	f, e := Type(op, l)
	a, x := array.Open(f, got.d)
	if e != api.OK || x.Err != api.OK {
		t.Fatalf("%d: %d, %d", op, e, x.Err)
	}
	return a.Values()
}

// P17.3: Do of arrays is Do of each row by itself.
func TestRowByRow(t *testing.T) {
	c := newChance(6)
	for range 3000 {
		op, l := c.call()
		if modelError(op, l) != api.OK {
			continue
		}
		columns := c.columns(l)
		var all []api.Value
		want := answer{}
		for i := 0; i < len(columns[0]) && want.e == api.OK; i++ {
			var row []api.Data
			for k, f := range l {
				row = append(row, formOf(t, f, columns[k][i:i+1]))
			}
			got := doOf(op, l, row...)
			if got.e != api.OK {
				want = answer{e: got.e, at: i}
				continue
			}
			all = append(all, denoted(t, op, l, got)...)
		}
		got := doOf(op, l, c.arrays(t, l, columns)...)
		if want.e != api.OK {
			same(t, "Do", got, want)
			continue
		}
		if !slices.EqualFunc(denoted(t, op, l, got), all, value.Same) {
			t.Fatalf("operation %d: %v, not %v", op, got, all)
		}
	}
}
