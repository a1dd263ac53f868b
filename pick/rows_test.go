package pick

import (
	"math"
	"strings"
	"testing"

	"colonnade/api"
	"colonnade/build"
)

// P14.4: numbers, in their order, the first one that can't be.
func TestTakeRowsNumbers(t *testing.T) {
	s := schema(t, "a int8?, b int8")
	lets := schema(t, "a int8?, b text?")
	a, b := s.Fields[0], s.Fields[1]
	all := api.Batch{Rows: 2, Columns: []api.Data{data(t, a, "1", "null"), data(t, b, "3", "4")}}
	other := api.Batch{Rows: 2, Columns: []api.Data{data(t, a, "1", "null"), data(t, lets.Fields[1], `"x"`, `"y"`)}}
	for _, n := range []int{-2, 2, 4096, 1 << 32, 1<<32 + 1, -1<<32 - 1, math.MinInt, math.MaxInt} {
		got, e := TakeRows(s, all, []int{0, n, -1})
		holdsBatch(t, "TakeRows", got, e, api.Batch{}, api.ErrRange)
		got, e = TakeRows(s, all, []int{0, -1, n})
		holdsBatch(t, "TakeRows", got, e, api.Batch{}, api.ErrValue)
		got, e = TakeRows(lets, other, []int{0, -1, n})
		holdsBatch(t, "TakeRows", got, e, api.Batch{}, api.ErrRange)
	}
	got, e := TakeRows(lets, other, []int{-1, 1, -1, 0})
	want := api.Batch{Rows: 4, Columns: []api.Data{data(t, a, "null", "null", "null", "1"), data(t, lets.Fields[1], "null", `"y"`, "null", `"x"`)}}
	holdsBatch(t, "TakeRows of nulls", got, e, want, api.OK)
	got, e = TakeRows(s, all, nil)
	holdsBatch(t, "TakeRows of none", got, e, api.Batch{Columns: []api.Data{data(t, a), data(t, b)}}, api.OK)
}

// P14.4: more than MaxRows numbers are told ahead of what is wrong with one, and behind what is wrong with the batch.
func TestTakeRowsMost(t *testing.T) {
	s := schema(t, "a int8")
	one := api.Batch{Rows: 1, Columns: []api.Data{data(t, s.Fields[0], "7")}}
	got, e := TakeRows(s, one, make([]int, 4096))
	want := api.Batch{Rows: 4096, Columns: []api.Data{formed(t, s.Fields[0], times(4096, api.Value{Num: 7}))}}
	holdsBatch(t, "TakeRows of 4096", got, e, want, api.OK)
	for _, n := range []int{0, -1, 1} {
		got, e = TakeRows(s, one, times(4097, n))
		holdsBatch(t, "TakeRows of 4097", got, e, api.Batch{}, api.ErrRows)
	}
	got, e = TakeRows(s, api.Batch{Rows: 1}, make([]int, 4097))
	holdsBatch(t, "TakeRows out of no batch", got, e, api.Batch{}, api.ErrColumns)
	got, e = TakeRows(schema(t, ""), api.Batch{Rows: 1}, make([]int, 4097))
	holdsBatch(t, "TakeRows of 4097 without columns", got, e, api.Batch{}, api.ErrRows)
}

// A batch without columns has rows all the same, and lets nulls.
func TestNoColumns(t *testing.T) {
	s := schema(t, "")
	b := api.Batch{Rows: 3}
	got, e := TakeRows(s, b, []int{2, -1, 0, 0})
	holdsBatch(t, "TakeRows", got, e, api.Batch{Rows: 4}, api.OK)
	got, e = TakeRows(s, b, []int{3})
	holdsBatch(t, "TakeRows of a row beyond", got, e, api.Batch{}, api.ErrRange)
	got, e = FilterRows(s, b, data(t, maskField, "true", "null", "true"))
	holdsBatch(t, "FilterRows", got, e, api.Batch{Rows: 2}, api.OK)
	got, e = FilterRows(s, b, data(t, maskField, "true", "null"))
	holdsBatch(t, "FilterRows by two rows", got, e, api.Batch{}, api.ErrUnlike)
	got, e = FilterRows(s, api.Batch{Rows: 4097}, data(t, maskField))
	holdsBatch(t, "FilterRows of 4097", got, e, api.Batch{}, api.ErrColumns)
}

// P14.5: masks, and those of another length.
func TestFilterRows(t *testing.T) {
	s := schema(t, "a int8?, d dict(0, int8, w text)")
	a, d := s.Fields[0], s.Fields[1]
	b := api.Batch{Rows: 3, Columns: []api.Data{data(t, a, "1", "null", "3"), data(t, d, `"x"`, `"y"`, `"z"`)}}
	got, e := FilterRows(s, b, data(t, maskField, "null", "true", "true"))
	want := api.Batch{Rows: 2, Columns: []api.Data{data(t, a, "null", "3"), data(t, d, `"y"`, `"z"`)}}
	holdsBatch(t, "FilterRows", got, e, want, api.OK)
	got, e = FilterRows(s, b, data(t, maskField, "null", "false", "false"))
	holdsBatch(t, "FilterRows of none", got, e, api.Batch{Columns: []api.Data{data(t, a), data(t, d)}}, api.OK)
	for _, n := range []int{0, 2, 4, 4096} {
		got, e = FilterRows(s, b, formed(t, maskField, make([]api.Value, n)))
		holdsBatch(t, "FilterRows by another number of rows", got, e, api.Batch{}, api.ErrUnlike)
	}
}

// Which fault is told first: the schema's, the batch's, the columns' in their order, the mask's, the lengths', the building's.
func TestBatchFaultsInOrder(t *testing.T) {
	s := schema(t, "a text, b int8")
	twice := api.Schema{Fields: []api.Field{s.Fields[0], s.Fields[0]}}
	notes := api.Schema{Fields: s.Fields, Notes: times(17, api.Note{})}
	a, b := data(t, s.Fields[0], `"x"`), data(t, s.Fields[1], "1")
	noText := api.Data{Length: 1, Buffers: [][]byte{nil, {0}, nil}}     // ErrSmall
	noInt := api.Data{Length: 1, Nulls: 1, Buffers: [][]byte{nil, {0}}} // ErrLength
	noMask := api.Data{Length: 1, Buffers: [][]byte{nil, {1}, nil}}     // ErrShape
	unlike := formed(t, maskField, make([]api.Value, 2))                // ErrUnlike
	batch := func(rows int, l ...api.Data) api.Batch { return api.Batch{Rows: rows, Columns: l} }
	for _, x := range []struct {
		s    api.Schema
		b    api.Batch
		mask api.Data
		want api.Errno
	}{
		{twice, batch(-1, noText), noMask, api.ErrType},
		{notes, batch(1, a, b), unlike, api.ErrType},
		{s, batch(-1, a, b), noMask, api.ErrColumns},
		{s, batch(4097, a, b), noMask, api.ErrColumns},
		{s, batch(1, noText), noMask, api.ErrColumns},
		{s, batch(1, noText, b, b), noMask, api.ErrColumns},
		{s, batch(1, noText, data(t, s.Fields[1], "1", "2")), noMask, api.ErrColumns},
		{s, batch(1, noText, noInt), noMask, api.ErrSmall},
		{s, batch(1, a, noInt), noMask, api.ErrLength},
		{s, batch(1, a, b), noMask, api.ErrShape},
		{s, batch(1, a, b), unlike, api.ErrUnlike},
	} {
		got, e := FilterRows(x.s, x.b, x.mask)
		holdsBatch(t, "FilterRows", got, e, api.Batch{}, x.want)
		if x.want != api.ErrShape && x.want != api.ErrUnlike {
			got, e = TakeRows(x.s, x.b, []int{-5})
			holdsBatch(t, "TakeRows", got, e, api.Batch{}, x.want)
		}
	}
}

// Columns are built in their order: the first one that can't be decides; and numbers are looked at ahead of all building.
func TestColumnsInOrder(t *testing.T) {
	bytes, rows := field(t, "text"), field(t, "list(i int8)")
	bytes.Name, rows.Name = "a", "b"
	long := formed(t, bytes, []api.Value{{Text: strings.Repeat("x", 17)}})
	many := formed(t, rows, []api.Value{{List: make([]api.Value, 2)}})
	for _, x := range []struct {
		f    []api.Field
		d    []api.Data
		want api.Errno
	}{
		{[]api.Field{bytes, rows}, []api.Data{long, many}, api.ErrBytes},
		{[]api.Field{rows, bytes}, []api.Data{many, long}, api.ErrRows},
	} {
		s, b := api.Schema{Fields: x.f}, api.Batch{Rows: 1, Columns: x.d}
		got, e := TakeRows(s, b, make([]int, 4096))
		holdsBatch(t, "TakeRows", got, e, api.Batch{}, x.want)
		numbers := make([]int, 4096)
		numbers[4095] = 1
		got, e = TakeRows(s, b, numbers)
		holdsBatch(t, "TakeRows", got, e, api.Batch{}, api.ErrRange)
		numbers[4095] = -1
		got, e = TakeRows(s, b, numbers)
		holdsBatch(t, "TakeRows", got, e, api.Batch{}, api.ErrValue)
	}
	f := field(t, "choice(a text)")
	s, b := api.Schema{Fields: []api.Field{f}}, api.Batch{Rows: 10, Columns: []api.Data{again(10, 30000)}}
	got, e := FilterRows(s, b, formed(t, maskField, times(10, api.Value{Num: 1})))
	holdsBatch(t, "FilterRows", got, e, api.Batch{}, api.ErrBytes)
}

// The weight of all columns together is not asked, that of each is.
func TestHeavyColumns(t *testing.T) {
	s := schema(t, "a dict(0, int8, w text), b dict(1, int8, w text)")
	column := func(n int) api.Data {
		text := api.Data{Length: 1, Buffers: [][]byte{nil, {0, 0, 0, 0, byte(n), byte(n >> 8), 0, 0}, []byte(strings.Repeat("x", n))}}
		return api.Data{Length: 4096, Buffers: [][]byte{nil, make([]byte, 4096)}, Dict: []api.Data{text}}
	}
	b := api.Batch{Rows: 4096, Columns: []api.Data{column(1008), column(1008)}}
	if _, e := build.Rows(s, b); e != api.ErrRows {
		t.Fatalf("Rows: %d", e)
	}
	got, e := TakeRows(s, b, rising(0, 4096))
	holdsBatch(t, "TakeRows", got, e, b, api.OK)
	got, e = FilterRows(s, b, formed(t, maskField, times(4096, api.Value{Num: 1})))
	holdsBatch(t, "FilterRows", got, e, b, api.OK)
	b.Columns[1] = column(1009)
	got, e = TakeRows(s, b, []int{0})
	holdsBatch(t, "TakeRows of a column that is too heavy", got, e, api.Batch{}, api.ErrRows)
	got, e = FilterRows(s, b, api.Data{})
	holdsBatch(t, "FilterRows of a column that is too heavy", got, e, api.Batch{}, api.ErrRows)
}
