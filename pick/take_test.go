package pick

import (
	"math"
	"runtime"
	"strings"
	"testing"

	"colonnade/api"
	"colonnade/array"
)

// P14.1: numbers that no row has, also such whose lowest bits are a row's.
func TestTakeRange(t *testing.T) {
	for _, text := range []string{"int8", "int8?"} {
		f := field(t, text)
		d := data(t, f, "5", "6")
		for _, n := range []int{-1, -2, 2, 4095, 4096, 4097, 1 << 32, 1<<32 + 1, -1 << 32, 1 << 62, math.MinInt, math.MaxInt} {
			got, e := Take(f, d, index(t, 1, n, 0))
			holds(t, "Take", got, e, api.Data{}, api.ErrRange)
		}
		got, e := Take(f, data(t, f), index(t, 0))
		holds(t, "Take out of no rows", got, e, api.Data{}, api.ErrRange)
		got, e = Take(f, data(t, f), index(t))
		holds(t, "Take of no rows", got, e, data(t, f), api.OK)
	}
}

// P14.1: which fields let a null, at all kinds.
func TestTakeNull(t *testing.T) {
	for text, want := range map[string]api.Errno{
		"null?":                    api.OK,
		"bool":                     api.ErrValue,
		"text?":                    api.OK,
		"fixed(3)?":                api.OK,
		"list(i int8?)":            api.ErrValue,
		"list(i int8)?":            api.OK,
		"span(2, i int8)?":         api.OK,
		"struct(a int8)?":          api.OK,
		"struct(a int8?)":          api.ErrValue,
		"choice(a int8?, b null?)": api.ErrValue,
		"dict(0, int8, w text)":    api.ErrValue,
		"dict(0, int8, w text)?":   api.OK,
		"runs(v int8?)?":           api.OK,
		"runs(v int8)":             api.ErrValue,
		"runs(v choice(a null?))":  api.ErrValue,
		"runs(v runs(w null?)?)?":  api.OK,
	} {
		f := field(t, text)
		var empty, some api.Data
		if empty = data(t, f); want == api.OK {
			some = data(t, f, "null", "null")
		}
		got, e := Take(f, empty, data(t, indexField, "null", "null"))
		holds(t, "Take of nulls out of "+text, got, e, some, want)
		s := api.Schema{Fields: []api.Field{field(t, "int8?"), f}}
		s.Fields[1].Name = "g"
		b, e := TakeRows(s, api.Batch{Columns: []api.Data{data(t, s.Fields[0]), empty}}, []int{-1, -1})
		var all api.Batch
		if want == api.OK {
			all = api.Batch{Rows: 2, Columns: []api.Data{data(t, s.Fields[0], "null", "null"), some}}
		}
		holdsBatch(t, "TakeRows of nulls out of "+text, b, e, all, want)
	}
}

// P14.1: where an index is null any bytes may stand; where it has no validity no row of it is null.
func TestTakeLyingIndex(t *testing.T) {
	f := field(t, "int8?")
	d := data(t, f, "5", "6")
	by := api.Data{Length: 3, Offset: 1, Nulls: 1, Buffers: [][]byte{{0xfb}, {
		99, 0, 0, 0, 0, 0, 0, 0,
		1, 0, 0, 0, 0, 0, 0, 0,
		255, 255, 255, 255, 255, 255, 255, 255,
		0, 0, 0, 0, 0, 0, 0, 0,
		99}}}
	got, e := Take(f, d, by)
	holds(t, "Take", got, e, data(t, f, "6", "null", "5"), api.OK)
	by.Buffers[0], by.Nulls = nil, 0
	got, e = Take(f, d, by)
	holds(t, "Take by -1", got, e, api.Data{}, api.ErrRange)
}

// P14.2: a null of a mask is not true, whatever bit lies under it.
func TestFilterLyingMask(t *testing.T) {
	f := field(t, "int8")
	d := data(t, f, "1", "2", "3", "4")
	mask := api.Data{Length: 4, Offset: 2, Nulls: 2, Buffers: [][]byte{{0xd7}, {0xaf}}}
	got, e := Filter(f, d, mask)
	holds(t, "Filter", got, e, data(t, f, "1"), api.OK)
	for _, n := range []int{3, 5, 0} {
		got, e = Filter(f, d, formed(t, maskField, make([]api.Value, n)))
		holds(t, "Filter by another number of rows", got, e, api.Data{}, api.ErrUnlike)
	}
	got, e = Filter(f, d, data(t, maskField, "null", "false", "false", "null"))
	holds(t, "Filter of none", got, e, data(t, f), api.OK)
	got, e = Filter(f, data(t, f), data(t, maskField))
	holds(t, "Filter of no rows", got, e, data(t, f), api.OK)
}

// P14.3: bounds whose sum no number of 64 bits has.
func TestCutBounds(t *testing.T) {
	f := field(t, "int8")
	d := data(t, f, "1", "2", "3")
	for _, x := range [][2]int{{-1, 0}, {0, -1}, {-1, 1}, {1, -1}, {3, 1}, {4, 0}, {0, 4}, {math.MaxInt, 1}, {1, math.MaxInt}, {math.MaxInt, math.MaxInt}, {math.MinInt, math.MinInt}, {math.MinInt, math.MaxInt}, {4, math.MinInt}} {
		got, e := Cut(f, d, x[0], x[1])
		holds(t, "Cut", got, e, api.Data{}, api.ErrRange)
	}
	for from := range 4 {
		for n := range 4 - from {
			got, e := Cut(f, d, from, n)
			holds(t, "Cut", got, e, data(t, f, []string{"1", "2", "3"}[from:from+n]...), api.OK)
		}
	}
}

// Which fault is told first: the field's, the array's, the index's or mask's, the numbers', the building's.
func TestFaultsInOrder(t *testing.T) {
	f := field(t, "text")
	wrongField := api.Field{Name: "f", Type: api.Type{Kind: 99}}
	long := formed(t, f, []api.Value{{Text: strings.Repeat("x", 40000)}})
	noText := api.Data{Length: 1, Buffers: [][]byte{nil, {0}, nil}}         // ErrSmall
	noIndex := api.Data{Length: -1, Buffers: [][]byte{nil, nil}}            // ErrLength
	noMask := api.Data{Length: 1, Buffers: [][]byte{nil, {1}, nil}}         // ErrShape
	many := api.Data{Length: 4097, Buffers: [][]byte{nil, make([]byte, 0)}} // ErrRows
	for _, x := range []struct {
		f     api.Field
		d, by api.Data
		want  api.Errno
	}{
		{wrongField, noText, noIndex, api.ErrType},
		{api.Field{}, long, index(t, 0), api.ErrType},
		{f, noText, noIndex, api.ErrSmall},
		{f, long, noIndex, api.ErrLength},
		{f, long, many, api.ErrRows},
		{f, long, index(t, 0, 0, 1), api.ErrRange},
		{f, long, data(t, indexField, "0", "0", "null", "1"), api.ErrValue},
		{f, long, index(t, 0, 0), api.ErrBytes},
		{f, long, data(t, field(t, "int32?"), "0"), api.ErrSmall},
		{f, long, index(t, 0), api.OK},
	} {
		d, e := Take(x.f, x.d, x.by)
		var want api.Data
		if x.want == api.OK {
			want = x.d
		}
		holds(t, "Take", d, e, want, x.want)
	}
	if d, e := Filter(wrongField, noText, noMask); e != api.ErrType || !isZero(d) {
		t.Errorf("Filter of a wrong field: %d", e)
	}
	if d, e := Filter(f, noText, noMask); e != api.ErrSmall || !isZero(d) {
		t.Errorf("Filter of no array: %d", e)
	}
	if d, e := Filter(f, data(t, f), noMask); e != api.ErrShape || !isZero(d) {
		t.Errorf("Filter by no mask: %d", e)
	}
	if d, e := Cut(wrongField, noText, -1, 0); e != api.ErrType || !isZero(d) {
		t.Errorf("Cut of a wrong field: %d", e)
	}
	if d, e := Cut(f, noText, -1, 0); e != api.ErrSmall || !isZero(d) {
		t.Errorf("Cut of no array: %d", e)
	}
}

// again is a Choice whose rows all name one text of so many bytes: they lie there again and again in build form.
func again(rows, n int) api.Data {
	text := api.Data{Length: 1, Buffers: [][]byte{nil, {0, 0, 0, 0, byte(n), byte(n >> 8), 0, 0}, make([]byte, n)}}
	return api.Data{Length: rows, Buffers: [][]byte{make([]byte, rows), make([]byte, 4*rows)}, Children: []api.Data{text}}
}

// R4: what is picked can be refused though nothing is picked twice; and what can't be built as a whole can be in part.
func TestRefused(t *testing.T) {
	f := field(t, "choice(a text)")
	d := again(10, 30000)
	mask := formed(t, maskField, times(10, api.Value{Num: 1}))
	got, e := Filter(f, d, mask)
	holds(t, "Filter", got, e, api.Data{}, api.ErrBytes)
	got, e = Cut(f, d, 2, 3)
	holds(t, "Cut of three", got, e, api.Data{}, api.ErrBytes)
	got, e = Cut(f, d, 2, 2)
	holds(t, "Cut of two", got, e, formed(t, f, times(2, api.Value{List: []api.Value{{Text: strings.Repeat("\x00", 30000)}}})), api.OK)

	g := field(t, "list(i int8)")
	l := formed(t, g, []api.Value{{List: make([]api.Value, 2000)}, {List: make([]api.Value, 97)}})
	got, e = Take(g, l, index(t, 0, 0, 1))
	holds(t, "Take of 4097 items", got, e, api.Data{}, api.ErrRows)
	got, e = Take(g, l, index(t, 1, 0, 1))
	holds(t, "Take of 2194 items", got, e, formed(t, g, []api.Value{{List: make([]api.Value, 97)}, {List: make([]api.Value, 2000)}, {List: make([]api.Value, 97)}}), api.OK)

	// A null Span takes as much room as one that isn't.
	h := field(t, "span(64, i span(64, j int8))?")
	got, e = Take(h, data(t, h), data(t, indexField, "null", "null"))
	holds(t, "Take of two null spans", got, e, api.Data{}, api.ErrRows)
}

// heavy is an array of one row whose list names one text of 1000 bytes as often as may be.
func heavy() api.Data {
	text := api.Data{Length: 1, Buffers: [][]byte{nil, {0, 0, 0, 0, 232, 3, 0, 0}, make([]byte, 1000)}}
	items := api.Data{Length: 4096, Buffers: [][]byte{nil, make([]byte, 4096)}, Dict: []api.Data{text}}
	return api.Data{Length: 1, Buffers: [][]byte{nil, {0, 0, 0, 0, 0, 16, 0, 0}}, Children: []api.Data{items}}
}

// A heavy row that is named again and again is not made again and again ahead of being refused.
func TestHeavyRows(t *testing.T) {
	f := field(t, "list(i dict(0, int8, w text))")
	d := heavy()
	if x := array.Check(f, d); x.Err != api.OK {
		t.Fatalf("%+v", x)
	}
	by := index(t, make([]int, 4096)...)
	var ahead, behind runtime.MemStats
	runtime.ReadMemStats(&ahead)
	got, e := Take(f, d, by)
	runtime.ReadMemStats(&behind)
	holds(t, "Take of a heavy row", got, e, api.Data{}, api.ErrRows)
	if made := behind.TotalAlloc - ahead.TotalAlloc; made > 64<<20 {
		t.Errorf("%d bytes were made", made)
	}
}

// As many rows as may be, of each way of naming them.
func TestMostRows(t *testing.T) {
	f := field(t, "int16")
	var l, back []api.Value
	for i := range 4096 {
		l, back = append(l, api.Value{Num: int64(i)}), append(back, api.Value{Num: int64(4095 - i)})
	}
	d := formed(t, f, l)
	got, e := Take(f, d, formed(t, indexField, back))
	holds(t, "Take", got, e, formed(t, f, back), api.OK)
	got, e = Filter(f, d, formed(t, maskField, times(4096, api.Value{Num: 1})))
	holds(t, "Filter", got, e, d, api.OK)
	got, e = Cut(f, d, 0, 4096)
	holds(t, "Cut", got, e, d, api.OK)
	got, e = Cut(f, d, 4095, 1)
	holds(t, "Cut of the last one", got, e, formed(t, f, l[4095:]), api.OK)
	got, e = Take(f, d, formed(t, indexField, []api.Value{{Num: 4096}}))
	holds(t, "Take of 4096", got, e, api.Data{}, api.ErrRange)
}
