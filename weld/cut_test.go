package weld

import (
	"math"
	"strings"
	"testing"

	"colonnade/api"
)

// P15.4, P15.5: the number of rows.
func TestNumbers(t *testing.T) {
	s := schema(t, "a int8")
	table := api.Table{Schema: s, Batches: []api.Batch{ints(1), ints(2, 3)}}
	for _, n := range []int{0, -1, -4096, math.MinInt} {
		l, e := Cut(s, ints(1, 2, 3), n)
		holdsBatches(t, "Cut", l, e, nil, api.ErrArg)
		l, e = Cut(s, ints(), n)
		holdsBatches(t, "Cut of no rows", l, e, nil, api.ErrArg)
		x, e := Even(table, n)
		holdsTable(t, "Even", x, e, api.Table{}, api.ErrArg)
		x, e = Even(api.Table{Schema: s}, n)
		holdsTable(t, "Even of no batches", x, e, api.Table{}, api.ErrArg)
	}
	for _, n := range []int{4097, 1 << 32, 1<<32 + 1, math.MaxInt - 1, math.MaxInt} {
		l, e := Cut(s, ints(1, 2, 3), n)
		holdsBatches(t, "Cut", l, e, []api.Batch{ints(1, 2, 3)}, api.OK)
		l, e = Cut(s, ints(), n)
		holdsBatches(t, "Cut of no rows", l, e, nil, api.OK)
		x, e := Even(table, n)
		holdsTable(t, "Even", x, e, api.Table{}, api.ErrArg)
	}
	for _, n := range []int{3, 4, 4095, 4096} {
		l, e := Cut(s, ints(1, 2, 3), n)
		holdsBatches(t, "Cut", l, e, []api.Batch{ints(1, 2, 3)}, api.OK)
		x, e := Even(table, n)
		holdsTable(t, "Even", x, e, api.Table{Schema: s, Batches: []api.Batch{ints(1, 2, 3)}}, api.OK)
	}
}

// P15.4, P15.5: just MaxBatches batches, and one more.
func TestMostBatches(t *testing.T) {
	s := schema(t, "a int8")
	for _, x := range []struct {
		rows, n, want int
		err           api.Errno
	}{
		{255, 1, 255, api.OK},
		{256, 1, 256, api.OK},
		{257, 1, 0, api.ErrRange},
		{511, 2, 256, api.OK},
		{512, 2, 256, api.OK},
		{513, 2, 0, api.ErrRange},
		{514, 2, 0, api.ErrRange},
		{4096, 16, 256, api.OK},
		{4096, 15, 0, api.ErrRange},
		{4096, 17, 241, api.OK},
		{4096, 1, 0, api.ErrRange},
	} {
		b := ints(make([]byte, x.rows)...)
		l, e := Cut(s, b, x.n)
		if e != x.err || len(l) != x.want {
			t.Errorf("%d rows by %d: %d batches, %d", x.rows, x.n, len(l), e)
		}
		table := api.Table{Schema: s, Batches: []api.Batch{ints(b.Columns[0].Buffers[1][:100]...), ints(b.Columns[0].Buffers[1][100:]...)}}
		u, e := Even(table, x.n)
		if e != x.err || len(u.Batches) != x.want {
			t.Errorf("%d rows in two batches by %d: %d batches, %d", x.rows, x.n, len(u.Batches), e)
		}
	}
}

// P15.5: which fault is told first: the table's, then the number's, then how many there would be, then the building's.
func TestEvenFaultsInOrder(t *testing.T) {
	s := schema(t, "a text")
	none := api.Schema{Fields: []api.Field{s.Fields[0], s.Fields[0]}}
	wrong := api.Batch{Rows: 1}
	short := batchOf(data(t, s.Fields[0], `"x"`))
	long := batchOf(formOf(t, s.Fields[0], []api.Value{{Text: strings.Repeat("x", 300)}}))
	for _, x := range []struct {
		s    api.Schema
		l    []api.Batch
		n    int
		want api.Errno
	}{
		{none, times(257, wrong), 0, api.ErrType},
		{s, times(257, wrong), 0, api.ErrRange},
		{s, times(257, short), 0, api.ErrRange},
		{s, times(257, short), 257, api.ErrRange},
		{s, times(256, wrong), 0, api.ErrColumns},
		{s, times(256, short), 0, api.ErrArg},
		{s, times(256, long), 256, api.ErrBytes},
		{s, times(129, batchOf(formOf(t, s.Fields[0], make([]api.Value, 2)))), 1, api.ErrRange},
		{s, times(150, batchOf(formOf(t, s.Fields[0], times(2, api.Value{Text: strings.Repeat("x", 30000)})))), 1, api.ErrRange},
	} {
		got, e := Even(api.Table{Schema: x.s, Batches: x.l}, x.n)
		holdsTable(t, "Even", got, e, api.Table{}, x.want)
	}
	got, e := Even(api.Table{Schema: s, Batches: times(256, short)}, 128)
	half := batchOf(formOf(t, s.Fields[0], times(128, api.Value{Text: "x"})))
	holdsTable(t, "Even of 256 batches", got, e, api.Table{Schema: s, Batches: []api.Batch{half, half}}, api.OK)
}

// P15.4: which fault is told first.
func TestCutFaultsInOrder(t *testing.T) {
	s := schema(t, "a text")
	none := api.Schema{Fields: []api.Field{s.Fields[0], s.Fields[0]}}
	noText := api.Data{Length: 1, Buffers: [][]byte{nil, {0}, nil}}
	choice := schema(t, "a choice(t text)")
	for _, x := range []struct {
		s    api.Schema
		b    api.Batch
		n    int
		want api.Errno
	}{
		{none, api.Batch{Rows: -1}, 0, api.ErrType},
		{s, api.Batch{Rows: -1}, 0, api.ErrColumns},
		{s, api.Batch{Rows: 4097, Columns: []api.Data{{Length: 4097}}}, 0, api.ErrColumns},
		{s, batchOf(noText, noText), 0, api.ErrColumns},
		{s, batchOf(noText), 0, api.ErrSmall},
		{s, batchOf(data(t, s.Fields[0], `"x"`)), 0, api.ErrArg},
		{choice, batchOf(again(300, 400)), 0, api.ErrArg},
		{choice, batchOf(again(300, 400)), 1, api.ErrRange},
		{choice, batchOf(again(300, 400)), 200, api.ErrBytes},
	} {
		l, e := Cut(x.s, x.b, x.n)
		holdsBatches(t, "Cut", l, e, nil, x.want)
	}
	l, e := Cut(choice, batchOf(again(300, 400)), 150)
	half := batchOf(formOf(t, choice.Fields[0], times(150, api.Value{List: []api.Value{{Text: strings.Repeat("\x00", 400)}}})))
	holdsBatches(t, "Cut of what can't be laid as a whole", l, e, []api.Batch{half, half}, api.OK)
}

// P15.4, P15.5: the first piece that can't be built decides, though pieces behind it would be refused otherwise.
func TestFirstPiece(t *testing.T) {
	s := schema(t, "a text, b list(i int8)")
	row := func(bytes, items int) api.Batch {
		return batchOf(formOf(t, s.Fields[0], []api.Value{{Text: strings.Repeat("x", bytes)}}), formOf(t, s.Fields[1], []api.Value{{List: make([]api.Value, items)}}))
	}
	for _, x := range []struct {
		n    int
		l    []api.Batch
		want api.Errno
	}{
		{2, []api.Batch{row(0, 0), row(0, 4000), row(0, 4000), row(0, 4000), row(60000, 0), row(60000, 0)}, api.ErrRows},
		{2, []api.Batch{row(0, 0), row(0, 4000), row(60000, 0), row(60000, 0), row(0, 4000), row(0, 4000)}, api.ErrBytes},
		{3, []api.Batch{row(60000, 4000), row(0, 97), row(6000, 0)}, api.ErrRows},
		{3, []api.Batch{row(60000, 4000), row(6000, 97), row(0, 0)}, api.ErrBytes},
	} {
		got, e := Even(api.Table{Schema: s, Batches: x.l}, x.n)
		holdsTable(t, "Even", got, e, api.Table{}, x.want)
	}
	l := []api.Batch{row(60000, 4000), row(6000, 97), row(60000, 4000)}
	got, e := Even(api.Table{Schema: s, Batches: l}, 1)
	holdsTable(t, "Even by 1", got, e, api.Table{Schema: s, Batches: l}, api.OK)
}

// P15.5: the schema's notes come along; batches without rows don't.
func TestEvenNotesAndNone(t *testing.T) {
	s := schema(t, `a int8, l list(i text?) | "k" "x", "k" ""`)
	empty := batchOf(data(t, s.Fields[0]), data(t, s.Fields[1]))
	one := batchOf(data(t, s.Fields[0], "5"), data(t, s.Fields[1], `["x",null]`))
	for _, l := range [][]api.Batch{nil, {}, {empty}, {empty, empty}} {
		x, e := Even(api.Table{Schema: s, Batches: l}, 3)
		holdsTable(t, "Even of no rows", x, e, api.Table{Schema: s}, api.OK)
	}
	x, e := Even(api.Table{Schema: s, Batches: []api.Batch{empty, one, empty, empty}}, 3)
	holdsTable(t, "Even of one row", x, e, api.Table{Schema: s, Batches: []api.Batch{one}}, api.OK)
	l, e := Cut(s, empty, 3)
	holdsBatches(t, "Cut of no rows", l, e, nil, api.OK)
}

// Rows without columns are cut, too.
func TestCutNoColumns(t *testing.T) {
	s := schema(t, "")
	l, e := Cut(s, api.Batch{Rows: 5}, 2)
	holdsBatches(t, "Cut", l, e, []api.Batch{{Rows: 2}, {Rows: 2}, {Rows: 1}}, api.OK)
	x, e := Even(api.Table{Schema: s, Batches: []api.Batch{{Rows: 3}, {Rows: 0}, {Rows: 4}}}, 5)
	holdsTable(t, "Even", x, e, api.Table{Batches: []api.Batch{{Rows: 5}, {Rows: 2}}}, api.OK)
	x, e = Even(api.Table{Schema: s, Batches: times(256, api.Batch{Rows: 4096})}, 4096)
	holdsTable(t, "Even of all rows that may be", x, e, api.Table{Batches: times(256, api.Batch{Rows: 4096})}, api.OK)
	x, e = Even(api.Table{Schema: s, Batches: times(256, api.Batch{Rows: 4096})}, 4095)
	holdsTable(t, "Even of one batch too many", x, e, api.Table{}, api.ErrRange)
	x, e = Even(api.Table{Schema: s, Batches: []api.Batch{{Rows: 4097}}}, 1)
	holdsTable(t, "Even of 4097 rows", x, e, api.Table{}, api.ErrColumns)
}

// As many rows as a table may have, with a column.
func TestEvenMostRows(t *testing.T) {
	s := schema(t, "a int8")
	var l []api.Batch
	for i := range 256 {
		l = append(l, ints(times(4096, byte(i))...))
	}
	x, e := Even(api.Table{Schema: s, Batches: l}, 4096)
	holdsTable(t, "Even", x, e, api.Table{Schema: s, Batches: l}, api.OK)
}
