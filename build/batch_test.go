package build

import (
	"strconv"
	"testing"

	"colonnade/api"
	"colonnade/array"
	"colonnade/value"
)

// schema makes a schema of at most so many fields.
func (c *chance) schema(most int) api.Schema {
	var s api.Schema
	c.ids = 0
	for k := range c.Intn(most + 1) {
		s.Fields = append(s.Fields, c.within("f"+strconv.Itoa(k), 2, false))
	}
	return s
}

// row makes a row of a schema.
func (c *chance) row(s api.Schema, size int) []api.Value {
	row := []api.Value{}
	for _, f := range s.Fields {
		row = append(row, c.value(f, size))
	}
	return row
}

// column tells a column of rows.
func column(rows [][]api.Value, k int) []api.Value {
	var l []api.Value
	for _, row := range rows {
		l = append(l, row[k])
	}
	return l
}

// sameRows tells whether rows are the same.
func sameRows(a, b [][]api.Value) bool {
	if len(a) != len(b) {
		return false
	}
	for i := range a {
		if !sameValues(a[i], b[i]) {
			return false
		}
	}
	return true
}

// P9.4, P9.5, P9.7: a batch of rows has their columns' forms, and its rows are the rows.
func TestBatch(t *testing.T) {
	c := newChance(21)
	for range 1500 {
		s := c.schema(4)
		var rows [][]api.Value
		for range c.Intn(8) {
			rows = append(rows, c.row(s, 3))
		}
		b, e, at := Batch(s, rows)
		if e != api.OK || at != 0 || b.Rows != len(rows) || len(b.Columns) != len(s.Fields) {
			t.Fatalf("Batch: %d, %d", e, at)
		}
		for k, f := range s.Fields {
			if want, _ := modelForm(f, column(rows, k)); !modelSame(b.Columns[k], want) {
				t.Fatalf("column %d of %v: %s", k, s, printed(b.Columns[k]))
			}
		}
		if back, e := Rows(s, b); e != api.OK || !sameRows(back, rows) {
			t.Fatalf("Rows: %v, %d", back, e)
		}
	}
}

// P9.5, P9.7: rows of columns that lie anyhow; a batch of them has the columns' forms.
func TestRows(t *testing.T) {
	c := newChance(22)
	for range 1000 {
		s := c.schema(3)
		b := api.Batch{Rows: c.Intn(8)}
		for _, f := range s.Fields {
			b.Columns = append(b.Columns, c.array(f, b.Rows))
		}
		rows, e := Rows(s, b)
		if e != api.OK || len(rows) != b.Rows {
			t.Fatalf("Rows: %d", e)
		}
		made, e, _ := Batch(s, rows)
		if e != api.OK {
			t.Fatalf("Batch: %d", e)
		}
		for k, f := range s.Fields {
			if !sameValues(column(rows, k), denoted(t, f, b.Columns[k])) {
				t.Fatalf("column %d of %v", k, s)
			}
			if form, e := Form(f, b.Columns[k]); e != api.OK || !modelSame(form, made.Columns[k]) {
				t.Fatalf("the form of column %d of %v", k, s)
			}
		}
	}
}

// modelBatch tells what Batch answers beside the batch.
func modelBatch(s api.Schema, rows [][]api.Value) (api.Errno, int) {
	var columns []*tally
	for _, f := range s.Fields {
		columns = append(columns, newTally(f))
	}
	for i, row := range rows {
		if i == 4096 {
			return api.ErrRows, i
		}
		if len(row) != len(s.Fields) {
			return api.ErrColumns, i
		}
		for k, v := range row {
			if value.Fits(s.Fields[k], v) != api.OK {
				return api.ErrValue, i
			}
			if e := columns[k].take(v); e != api.OK {
				return e, i
			}
		}
	}
	return api.OK, 0
}

// P9.4: of several errors the first row decides, and of a row the first thing.
func TestWrongBatches(t *testing.T) {
	s := schema(t, "a int8, b text?, d dict(0, int8, w int16)")
	good := []api.Value{num(1), null, num(1)}
	var full [][]api.Value
	for i := range 128 {
		full = append(full, []api.Value{num(1), null, num(int64(i))})
	}
	many := make([][]api.Value, 4096)
	for i := range many {
		many[i] = good
	}
	none := make([][]api.Value, 4097)
	for i, c := range []struct {
		s    api.Schema
		rows [][]api.Value
		e    api.Errno
		at   int
	}{
		{s, [][]api.Value{good, good[:2], {num(300), null, num(1)}}, api.ErrColumns, 1},
		{s, [][]api.Value{good, {num(300), null, num(1)}, good[:2]}, api.ErrValue, 1},
		{s, [][]api.Value{good, append(good[:3:3], num(1))}, api.ErrColumns, 1},
		{s, [][]api.Value{{}}, api.ErrColumns, 0},
		{s, [][]api.Value{nil}, api.ErrColumns, 0},
		{s, [][]api.Value{good, {num(1), long(65537), num(100000)}}, api.ErrBytes, 1},
		{s, [][]api.Value{good, {num(1), text("\xff"), num(100000)}}, api.ErrValue, 1},
		{s, [][]api.Value{{num(1), long(65536), num(1)}, {num(1), text("x"), num(1)}, {num(128), null, num(1)}}, api.ErrBytes, 1},
		{s, [][]api.Value{{num(1), long(65536), num(1)}, {num(128), text("x"), num(1)}}, api.ErrValue, 1},
		{s, append(full[:128:128], []api.Value{num(1), long(65537), num(128)}), api.ErrBytes, 128},
		{s, append(full[:128:128], []api.Value{num(1), null, num(128)}), api.ErrIndices, 128},
		{s, append(full[:128:128], []api.Value{num(1), null, num(127)}), api.OK, 0},
		{s, many, api.OK, 0},
		{s, append(many[:4096:4096], good), api.ErrRows, 4096},
		{s, append(many[:4096:4096], nil), api.ErrRows, 4096},
		{s, append(many[:4095:4095], nil, nil), api.ErrColumns, 4095},
		{api.Schema{}, none[:4096], api.OK, 0},
		{api.Schema{}, none, api.ErrRows, 4096},
		{api.Schema{}, append(none[:5:5], good), api.ErrColumns, 5},
		{s, nil, api.OK, 0},
		{api.Schema{}, nil, api.OK, 0},
	} {
		b, e, at := Batch(c.s, c.rows)
		if e != c.e || at != c.at {
			t.Errorf("row %d: %d, %d, not %d, %d", i, e, at, c.e, c.at)
		}
		if e != api.OK && (b.Rows != 0 || b.Columns != nil) {
			t.Errorf("row %d: a batch beside an error", i)
		}
		if we, wat := modelBatch(c.s, c.rows); e != we || at != wat {
			t.Errorf("row %d: the model tells %d, %d", i, we, wat)
		}
		if e == api.OK && (b.Rows != len(c.rows) || len(b.Columns) != len(c.s.Fields)) {
			t.Errorf("row %d: %d rows", i, b.Rows)
		}
	}
}

// P9.4: rows with a value of another field, or another number of them, somewhere.
func TestAnyBatches(t *testing.T) {
	c := newChance(23)
	met := map[api.Errno]int{}
	for range 1500 {
		s, other := c.schema(4), c.schema(4)
		size := []int{3, 3, 3, 3000, 30000}[c.Intn(5)]
		var rows [][]api.Value
		for range c.Intn(8) {
			row := c.row(s, size)
			switch c.Intn(12) {
			case 0:
				row = c.row(other, 3)
			case 1:
				row = row[:c.Intn(len(row)+1)]
			}
			rows = append(rows, row)
		}
		_, e, at := Batch(s, rows)
		if we, wat := modelBatch(s, rows); e != we || at != wat {
			t.Fatalf("Batch: %d, %d, not %d, %d", e, at, we, wat)
		}
		met[e]++
	}
	for _, e := range []api.Errno{api.OK, api.ErrColumns, api.ErrValue, api.ErrRows, api.ErrBytes} {
		if met[e] < 3 {
			t.Errorf("%d was met %d times", e, met[e])
		}
	}
}

// Schemas that may not be, though each of their fields may.
func TestWrongSchemas(t *testing.T) {
	a, d := field(t, "int8"), field(t, "dict(0, int8, w int8)")
	e := d
	e.Name = "e"
	var many []api.Field
	for i := range 33 {
		x := a
		x.Name = "f" + strconv.Itoa(i)
		many = append(many, x)
	}
	for i, s := range []api.Schema{{Fields: []api.Field{a, a}}, {Fields: []api.Field{d, e}}, {Fields: many}, {Notes: make([]api.Note, 17)}} {
		if b, e, at := Batch(s, [][]api.Value{{}, {num(300)}}); e != api.ErrType || at != 0 || b.Columns != nil || b.Rows != 0 {
			t.Errorf("schema %d: Batch: %d, %d", i, e, at)
		}
		if rows, e := Rows(s, api.Batch{Rows: -1}); e != api.ErrType || rows != nil {
			t.Errorf("schema %d: Rows: %d", i, e)
		}
	}
}

// P9.5: what is wrong with a batch.
func TestWrongRows(t *testing.T) {
	s := schema(t, "a int8, b text?")
	good, _, _ := Batch(s, [][]api.Value{{num(1), null}, {num(2), text("x")}})
	edge, _, _ := Batch(s, again(4096, []api.Value{num(1), null}))
	for i, c := range []struct {
		do func(b *api.Batch)
		e  api.Errno
	}{
		{func(b *api.Batch) {}, api.OK},
		{func(b *api.Batch) { b.Rows = 3 }, api.ErrColumns},
		{func(b *api.Batch) { b.Rows = 1 }, api.ErrColumns},
		{func(b *api.Batch) { b.Rows = 0 }, api.ErrColumns},
		{func(b *api.Batch) { b.Rows = -1 }, api.ErrColumns},
		{func(b *api.Batch) { b.Rows = 4097 }, api.ErrColumns},
		{func(b *api.Batch) { b.Rows = -1 << 63 }, api.ErrColumns},
		{func(b *api.Batch) { b.Columns = b.Columns[:1] }, api.ErrColumns},
		{func(b *api.Batch) { b.Columns = nil }, api.ErrColumns},
		{func(b *api.Batch) { b.Columns = append(b.Columns, b.Columns[0]) }, api.ErrColumns},
		{func(b *api.Batch) { b.Columns[1].Length = 1 }, api.ErrColumns},
		{func(b *api.Batch) { b.Columns[0].Length = 1 }, api.ErrColumns},
		{func(b *api.Batch) { b.Rows, b.Columns[0].Length, b.Columns[1].Length = 4097, 4097, 4097 }, api.ErrColumns},
		{func(b *api.Batch) { b.Rows, b.Columns[0].Length, b.Columns[1].Length = -1, -1, -1 }, api.ErrColumns},
		// A column of another length is told ahead of one that is no array.
		{func(b *api.Batch) { b.Columns[0].Buffers, b.Columns[1].Length = nil, 1 }, api.ErrColumns},
		{func(b *api.Batch) { b.Columns[0].Buffers = nil }, api.ErrShape},
		{func(b *api.Batch) { b.Columns[1].Buffers = nil }, api.ErrShape},
		{func(b *api.Batch) { b.Columns[0].Nulls, b.Columns[1].Buffers = 1, nil }, api.ErrLength},
		{func(b *api.Batch) { b.Columns[0].Buffers, b.Columns[1].Nulls = nil, 0 }, api.ErrShape},
		{func(b *api.Batch) { b.Columns[1].Buffers[1][8] = 9 }, api.ErrOffsets},
		{func(b *api.Batch) { b.Columns[1].Buffers[2][0] = 255 }, api.ErrUtf},
		{func(b *api.Batch) { *b = edge }, api.OK},
		{func(b *api.Batch) { b.Rows, b.Columns[0].Length, b.Columns[1].Length, b.Columns[1].Nulls = 1, 1, 1, 1 }, api.OK},
	} {
		b := copiedBatch(good)
		c.do(&b)
		rows, e := Rows(s, b)
		if e != c.e || e != api.OK && rows != nil || e == api.OK && len(rows) != b.Rows {
			t.Errorf("change %d: %d, not %d", i, e, c.e)
		}
	}
	for _, n := range []int{0, 5, 4096} {
		rows, e := Rows(api.Schema{}, api.Batch{Rows: n})
		if e != api.OK || len(rows) != n {
			t.Errorf("no columns: %d rows, %d", len(rows), e)
		}
		for _, row := range rows {
			if len(row) != 0 {
				t.Fatal("a row of no columns has values")
			}
		}
	}
}

// again is a row so many times.
func again(n int, row []api.Value) [][]api.Value {
	l := make([][]api.Value, n)
	for i := range l {
		l[i] = row
	}
	return l
}

// copiedBatch is the same batch in memory of its own.
func copiedBatch(b api.Batch) api.Batch {
	x := api.Batch{Rows: b.Rows}
	for _, d := range b.Columns {
		x.Columns = append(x.Columns, copiedData(d))
	}
	return x
}

// P9.5: columns that are too heavy together, by one byte; and arrays that are none are told ahead of it.
func TestHeavyRows(t *testing.T) {
	s := schema(t, "a dict(0, int8, w text), b dict(1, int8, w text), c int8")
	// 1024 rows of 16 are 16,384; so 4,177,920 are left: two times 2,040 a row.
	for _, c := range []struct {
		first, second int
		e             api.Errno
	}{{2024, 2024, api.OK}, {2024, 2025, api.ErrRows}, {4064, 0, api.ErrRows}, {4048, 0, api.OK}} {
		row := []api.Value{long(c.first), long(c.second), num(1)}
		b, e, _ := Batch(s, again(1024, row))
		if e != api.OK {
			t.Fatalf("Batch: %d", e)
		}
		rows, e := Rows(s, b)
		if e != c.e || e != api.OK && rows != nil {
			t.Errorf("%d and %d bytes: %d", c.first, c.second, e)
		}
		if e == api.OK && !sameRows(rows, again(1024, row)) {
			t.Errorf("%d and %d bytes: other rows", c.first, c.second)
		}
		b.Columns[2].Nulls = 1
		if _, e := Rows(s, b); e != api.ErrLength {
			t.Errorf("a column that is no array: %d", e)
		}
	}
}

// P9.5: to the byte, and what lies within values is weighed, too.
func TestJustAsHeavyRows(t *testing.T) {
	for _, c := range []struct {
		schema     string
		row, other []api.Value // the last row, one byte heavier
	}{
		{"a dict(0, int8, w text), b dict(1, int8, w text), c int8", []api.Value{long(2024), long(2024), num(1)}, []api.Value{long(2024), long(2025), num(1)}},
		{"a list(i dict(0, int8, w text)), b dict(1, int8, w text)", []api.Value{list(long(2024)), long(2024)}, []api.Value{list(long(2025)), long(2024)}},
		{"a struct(i dict(0, int8, w text)), b dict(1, int8, w text)", []api.Value{list(long(2024)), long(2024)}, []api.Value{list(long(2024)), long(2025)}},
	} {
		s := schema(t, c.schema)
		rows := again(1024, c.row)
		for _, want := range []api.Errno{api.OK, api.ErrRows} {
			b, e, _ := Batch(s, rows)
			if e != api.OK {
				t.Fatalf("%s: Batch: %d", c.schema, e)
			}
			if _, e := Rows(s, b); e != want {
				t.Errorf("%s: Rows: %d, not %d", c.schema, e, want)
			}
			rows[1023] = c.other
		}
	}
}

// What Batch made is arrays of the fields, and in build form.
func TestBatchIsArrays(t *testing.T) {
	c := newChance(24)
	for range 300 {
		s := c.schema(4)
		b, e, _ := Batch(s, [][]api.Value{c.row(s, 5), c.row(s, 5), c.row(s, 5)})
		if e != api.OK {
			t.Fatal(e)
		}
		for k, f := range s.Fields {
			if x := array.Check(f, b.Columns[k]); x.Err != api.OK || !IsForm(f, b.Columns[k]) {
				t.Fatalf("column %d of %v: %v", k, s, x)
			}
		}
	}
}
