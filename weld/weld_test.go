package weld

import (
	"runtime"
	"strings"
	"testing"

	"colonnade/api"
	"colonnade/array"
	"colonnade/build"
)

// again is a Choice whose rows all name one text of so many bytes: they lie there again and again in build form.
func again(rows, n int) api.Data {
	text := api.Data{Length: 1, Buffers: [][]byte{nil, {0, 0, 0, 0, byte(n), byte(n >> 8), 0, 0}, make([]byte, n)}}
	return api.Data{Length: rows, Buffers: [][]byte{make([]byte, rows), make([]byte, 4*rows)}, Children: []api.Data{text}}
}

// againItems is a Choice whose rows all name one list of so many items.
func againItems(rows, n int) api.Data {
	items := api.Data{Length: n, Buffers: [][]byte{nil, make([]byte, n)}}
	list := api.Data{Length: 1, Buffers: [][]byte{nil, {0, 0, 0, 0, byte(n), byte(n >> 8), 0, 0}}, Children: []api.Data{items}}
	return api.Data{Length: rows, Buffers: [][]byte{make([]byte, rows), make([]byte, 4*rows)}, Children: []api.Data{list}}
}

// repeated is a Dict whose rows all name one text of so many bytes.
func repeated(rows, n int) api.Data {
	text := api.Data{Length: 1, Buffers: [][]byte{nil, {0, 0, 0, 0, byte(n), byte(n >> 8), 0, 0}, []byte(strings.Repeat("x", n))}}
	return api.Data{Length: rows, Buffers: [][]byte{nil, make([]byte, rows)}, Dict: []api.Data{text}}
}

// P15.1: which fault is told first: the field's, the arrays' in their order, the building's.
func TestArraysFaultsInOrder(t *testing.T) {
	f := field(t, "text")
	long := formOf(t, f, []api.Value{{Text: strings.Repeat("x", 40000)}})
	small := api.Data{Length: 1, Buffers: [][]byte{nil, {0}, nil}}
	shape := api.Data{Length: 1, Buffers: [][]byte{nil, {0}}}
	minus := api.Data{Length: -1, Buffers: [][]byte{nil, nil, nil}}
	many := api.Data{Length: 4097, Buffers: [][]byte{nil, nil, nil}}
	for _, x := range []struct {
		f    api.Field
		l    []api.Data
		want api.Errno
	}{
		{api.Field{}, nil, api.ErrType},
		{api.Field{Name: "f", Type: api.Type{Kind: 99}}, []api.Data{small}, api.ErrType},
		{api.Field{Name: "", Type: f.Type}, []api.Data{long}, api.ErrType},
		{f, []api.Data{small, shape}, api.ErrSmall},
		{f, []api.Data{shape, small}, api.ErrShape},
		{f, []api.Data{minus}, api.ErrLength},
		{f, []api.Data{many}, api.ErrRows},
		{f, []api.Data{long, many, shape}, api.ErrRows},
		{f, []api.Data{long, long, shape}, api.ErrShape},
		{f, []api.Data{long, long}, api.ErrBytes},
		{f, []api.Data{{}}, api.ErrShape},
	} {
		d, e := Arrays(x.f, x.l)
		holds(t, "Arrays", d, e, api.Data{}, x.want)
	}
}

// P15.1: the limits of what is welded, just met and just passed.
func TestArraysLimits(t *testing.T) {
	f := field(t, "int8")
	half := formOf(t, f, make([]api.Value, 2048))
	d, e := Arrays(f, []api.Data{half, half})
	holds(t, "4096 rows", d, e, formOf(t, f, make([]api.Value, 4096)), api.OK)
	d, e = Arrays(f, []api.Data{half, data(t, f), half, data(t, f, "1")})
	holds(t, "4097 rows", d, e, api.Data{}, api.ErrRows)

	f = field(t, "text")
	long := api.Value{Text: strings.Repeat("x", 32768)}
	one := formOf(t, f, []api.Value{long})
	d, e = Arrays(f, []api.Data{one, one, data(t, f, `""`)})
	holds(t, "65536 bytes", d, e, formOf(t, f, []api.Value{long, long, {}}), api.OK)
	d, e = Arrays(f, []api.Data{one, one, data(t, f, `"a"`)})
	holds(t, "65537 bytes", d, e, api.Data{}, api.ErrBytes)

	f = field(t, "list(i int8)")
	one = formOf(t, f, []api.Value{{List: make([]api.Value, 2048)}})
	d, e = Arrays(f, []api.Data{one, one, data(t, f, "[]")})
	holds(t, "4096 items", d, e, formOf(t, f, []api.Value{{List: make([]api.Value, 2048)}, {List: make([]api.Value, 2048)}, {}}), api.OK)
	d, e = Arrays(f, []api.Data{one, one, data(t, f, "[1]")})
	holds(t, "4097 items", d, e, api.Data{}, api.ErrRows)

	f = field(t, "dict(0, int8, w text)")
	d, e = Arrays(f, []api.Data{repeated(2048, 1008), repeated(2048, 1008)})
	holds(t, "as heavy as may be", d, e, repeated(4096, 1008), api.OK)
	d, e = Arrays(f, []api.Data{repeated(2048, 1009), repeated(2048, 1009)})
	holds(t, "too heavy", d, e, api.Data{}, api.ErrRows)
}

// P15.1: a dictionary has as many values as its indices have numbers, in all arrays together.
func TestArraysIndices(t *testing.T) {
	f := field(t, "dict(0, int8, w int16)")
	some := func(from, n int) api.Data {
		var l []api.Value
		for i := range n {
			l = append(l, api.Value{Num: int64(from + i)})
		}
		return formOf(t, f, l)
	}
	d, e := Arrays(f, []api.Data{some(0, 100), some(50, 78), some(0, 128)})
	if e != api.OK || d.Length != 306 || d.Dict[0].Length != 128 {
		t.Errorf("128 values: %d rows, %d", d.Length, e)
	}
	d, e = Arrays(f, []api.Data{some(0, 100), some(50, 79)})
	holds(t, "129 values", d, e, api.Data{}, api.ErrIndices)
}

// R4: an array that lies there as none in build form can, welded alone.
func TestArraysRefused(t *testing.T) {
	f := field(t, "choice(a text)")
	d, e := Arrays(f, []api.Data{again(3, 30000)})
	holds(t, "three of 30000 bytes", d, e, api.Data{}, api.ErrBytes)
	d, e = Arrays(f, []api.Data{again(1, 30000), again(1, 30000)})
	one := api.Value{List: []api.Value{{Text: strings.Repeat("\x00", 30000)}}}
	holds(t, "twice 30000 bytes", d, e, formOf(t, f, []api.Value{one, one}), api.OK)

	// A null Span takes as much room as one that isn't.
	f = field(t, "span(64, i span(64, j int8))?")
	null := data(t, f, "null")
	d, e = Arrays(f, []api.Data{null})
	holds(t, "a null span", d, e, null, api.OK)
	d, e = Arrays(f, []api.Data{null, null})
	holds(t, "two null spans", d, e, api.Data{}, api.ErrRows)
}

// Runs of two arrays that meet become one run, also of nulls and of runs of runs.
func TestArraysRuns(t *testing.T) {
	f := field(t, "runs(v runs(w int8?)?)?")
	d, e := Arrays(f, []api.Data{data(t, f, "1", "null"), data(t, f, "null", "null"), data(t, f), data(t, f, "null", "1")})
	holds(t, "runs", d, e, data(t, f, "1", "null", "null", "null", "null", "1"), api.OK)
	if d.Children[0].Length != 3 {
		t.Errorf("%d runs", d.Children[0].Length)
	}
}

// P15.2: which fault is told first: the schema's, the batches' in their order, of each ErrColumns and then its columns', and behind them the building's.
func TestBatchesFaultsInOrder(t *testing.T) {
	s := schema(t, "a text, b int8")
	twice := api.Schema{Fields: []api.Field{s.Fields[0], s.Fields[0]}}
	notes := api.Schema{Fields: s.Fields, Notes: times(17, api.Note{})}
	a, b := data(t, s.Fields[0], `"x"`), data(t, s.Fields[1], "1")
	long := formOf(t, s.Fields[0], []api.Value{{Text: strings.Repeat("x", 40000)}})
	noText := api.Data{Length: 1, Buffers: [][]byte{nil, {0}, nil}}     // ErrSmall
	noInt := api.Data{Length: 1, Nulls: 1, Buffers: [][]byte{nil, {0}}} // ErrLength
	batch := func(rows int, l ...api.Data) api.Batch { return api.Batch{Rows: rows, Columns: l} }
	good := batch(1, long, b)
	for _, x := range []struct {
		s    api.Schema
		l    []api.Batch
		want api.Errno
	}{
		{twice, nil, api.ErrType},
		{notes, []api.Batch{batch(-1)}, api.ErrType},
		{s, []api.Batch{batch(-1, a, b)}, api.ErrColumns},
		{s, []api.Batch{batch(4097, a, b)}, api.ErrColumns},
		{s, []api.Batch{batch(1, noText)}, api.ErrColumns},
		{s, []api.Batch{batch(1, noText, b, b)}, api.ErrColumns},
		{s, []api.Batch{batch(1, noText, data(t, s.Fields[1], "1", "2"))}, api.ErrColumns},
		{s, []api.Batch{batch(0, a, b)}, api.ErrColumns},
		{s, []api.Batch{batch(1, noText, noInt), batch(-1)}, api.ErrSmall},
		{s, []api.Batch{batch(1, a, noInt), batch(1, noText, b)}, api.ErrLength},
		{s, []api.Batch{batch(-1), batch(1, noText, noInt)}, api.ErrColumns},
		{s, []api.Batch{good, good, batch(1, a, noInt)}, api.ErrLength},
		{s, []api.Batch{good, good, batch(2, a, b)}, api.ErrColumns},
		{s, []api.Batch{good, good}, api.ErrBytes},
	} {
		got, e := Batches(x.s, x.l)
		holdsBatch(t, "Batches", got, e, api.Batch{}, x.want)
		if x.want != api.ErrBytes {
			got, e := Even(api.Table{Schema: x.s, Batches: x.l}, 0)
			holdsTable(t, "Even", got, e, api.Table{}, x.want)
		}
	}
}

// P15.2: rows are laid one by one, and of one row column by column: the first limit that is met so is told.
func TestBatchesRowByRow(t *testing.T) {
	s := schema(t, "a text, b list(i int8)")
	row := func(bytes, items int) api.Batch {
		return batchOf(formOf(t, s.Fields[0], []api.Value{{Text: strings.Repeat("x", bytes)}}), formOf(t, s.Fields[1], []api.Value{{List: make([]api.Value, items)}}))
	}
	full := row(60000, 4000)
	for _, x := range []struct {
		l    []api.Batch
		want api.Errno
	}{
		{[]api.Batch{full, row(0, 97), row(6000, 0)}, api.ErrRows},
		{[]api.Batch{full, row(6000, 0), row(0, 97)}, api.ErrBytes},
		{[]api.Batch{full, row(6000, 97)}, api.ErrBytes},
	} {
		b, e := Batches(s, x.l)
		holdsBatch(t, "Batches", b, e, api.Batch{}, x.want)
	}
	b, e := Batches(s, []api.Batch{full, row(5536, 96)})
	want, _, _ := build.Batch(s, [][]api.Value{
		{{Text: strings.Repeat("x", 60000)}, {List: make([]api.Value, 4000)}}, {{Text: strings.Repeat("x", 5536)}, {List: make([]api.Value, 96)}},
	})
	holdsBatch(t, "Batches, just full", b, e, want, api.OK)
}

// P15.2: at row MaxRows ErrRows is told ahead of all, and of a schema without fields too.
func TestBatchesMostRows(t *testing.T) {
	s := schema(t, "a text")
	full := batchOf(formOf(t, s.Fields[0], times(4096, api.Value{Text: "0123456789abcdef"})))
	b, e := Batches(s, []api.Batch{full})
	holdsBatch(t, "4096 rows", b, e, full, api.OK)
	b, e = Batches(s, []api.Batch{full, batchOf(data(t, s.Fields[0], `"x"`))})
	holdsBatch(t, "4097 rows", b, e, api.Batch{}, api.ErrRows)

	none := schema(t, "")
	b, e = Batches(none, []api.Batch{{Rows: 4000}, {Rows: 0}, {Rows: 96}})
	holdsBatch(t, "4096 rows without columns", b, e, api.Batch{Rows: 4096}, api.OK)
	b, e = Batches(none, []api.Batch{{Rows: 4000}, {Rows: 97}})
	holdsBatch(t, "4097 rows without columns", b, e, api.Batch{}, api.ErrRows)
	b, e = Batches(none, []api.Batch{{Rows: 4096}, {Rows: 4096}, {Rows: -1}})
	holdsBatch(t, "a wrong batch behind too many rows", b, e, api.Batch{}, api.ErrColumns)
}

// Of no batches comes a batch without rows, with all its columns.
func TestBatchesOfNone(t *testing.T) {
	s := schema(t, "a text, l list(i int8?)?")
	want := batchOf(data(t, s.Fields[0]), data(t, s.Fields[1]))
	for _, l := range [][]api.Batch{nil, {}, {want}, {want, want}} {
		b, e := Batches(s, l)
		holdsBatch(t, "Batches", b, e, want, api.OK)
	}
}

// What all columns weigh together is not asked, what each weighs is.
func TestHeavyColumns(t *testing.T) {
	s, u := schema(t, "a dict(0, int8, w text), b dict(1, int8, w text)"), schema(t, "c dict(2, int8, w text)")
	half := batchOf(repeated(2048, 1008), repeated(2048, 1008))
	all := batchOf(repeated(4096, 1008), repeated(4096, 1008))
	if _, e := build.Rows(s, all); e != api.ErrRows {
		t.Fatalf("Rows: %d", e)
	}
	b, e := Batches(s, []api.Batch{half, half})
	holdsBatch(t, "Batches", b, e, all, api.OK)
	_, b, e = Beside(s, all, u, batchOf(repeated(4096, 1008)))
	holdsBatch(t, "Beside", b, e, batchOf(repeated(4096, 1008), repeated(4096, 1008), repeated(4096, 1008)), api.OK)
	l, e := Cut(s, all, 2048)
	holdsBatches(t, "Cut", l, e, []api.Batch{half, half}, api.OK)
	x, e := Even(api.Table{Schema: s, Batches: l}, 4096)
	holdsTable(t, "Even", x, e, api.Table{Schema: s, Batches: []api.Batch{all}}, api.OK)

	all.Columns[1] = repeated(4096, 1009)
	b, e = Batches(s, []api.Batch{all})
	holdsBatch(t, "Batches of a column that is too heavy", b, e, api.Batch{}, api.ErrRows)
	l, e = Cut(s, all, 0)
	holdsBatches(t, "Cut of a column that is too heavy", l, e, nil, api.ErrRows)
}

// heavy is an array of one row whose list names one text of 1000 bytes as often as may be.
func heavy() api.Data {
	return api.Data{Length: 1, Buffers: [][]byte{nil, {0, 0, 0, 0, 0, 16, 0, 0}}, Children: []api.Data{repeated(4096, 1000)}}
}

// Of many heavy rows no more are made than it takes to refuse them.
func TestHeavyRows(t *testing.T) {
	s := schema(t, "a list(i dict(0, int8, w text))")
	f, d := s.Fields[0], heavy()
	if x := array.Check(f, d); x.Err != api.OK {
		t.Fatalf("%+v", x)
	}
	one := batchOf(d)
	arrays, batches := times(256, d), times(256, one)
	var ahead, behind runtime.MemStats
	runtime.ReadMemStats(&ahead)
	_, e := Arrays(f, arrays)
	_, err := Batches(s, batches)
	_, last := Even(api.Table{Schema: s, Batches: batches}, 4096)
	runtime.ReadMemStats(&behind)
	if e != api.ErrRows || err != api.ErrRows || last != api.ErrRows {
		t.Errorf("Arrays: %d, Batches: %d, Even: %d", e, err, last)
	}
	if made := behind.TotalAlloc - ahead.TotalAlloc; made > 256<<20 {
		t.Errorf("%d bytes were made", made)
	}
}

// P15.3: which fault is told first.
func TestBesideFaultsInOrder(t *testing.T) {
	s, u := schema(t, "a int8"), schema(t, "b int8")
	none := api.Schema{Fields: []api.Field{s.Fields[0], s.Fields[0]}}
	noInt := api.Batch{Rows: 1, Columns: []api.Data{{Length: 1, Nulls: 1, Buffers: [][]byte{nil, {0}}}}} // ErrLength
	small := api.Batch{Rows: 1, Columns: []api.Data{{Length: 1, Buffers: [][]byte{nil, nil}}}}           // ErrSmall
	minus := api.Batch{Rows: -1}
	for _, x := range []struct {
		s1   api.Schema
		b1   api.Batch
		s2   api.Schema
		b2   api.Batch
		want api.Errno
	}{
		{none, minus, u, minus, api.ErrType},
		{s, minus, none, minus, api.ErrType},
		{s, minus, u, noInt, api.ErrColumns},
		{s, noInt, u, minus, api.ErrLength},
		{s, noInt, u, small, api.ErrLength},
		{s, small, u, noInt, api.ErrSmall},
		{s, ints(1, 2), u, noInt, api.ErrLength},
		{s, ints(1, 2), s, ints(1), api.ErrUnlike},
		{s, ints(), s, ints(1), api.ErrUnlike},
		{s, ints(1), s, ints(1), api.ErrTwice},
	} {
		both, b, e := Beside(x.s1, x.b1, x.s2, x.b2)
		holdsBatch(t, "Beside", b, e, api.Batch{}, x.want)
		if both.Fields != nil || both.Notes != nil {
			t.Errorf("a schema beside the error %d", e)
		}
	}
}

// wide is a schema of so many fields of int8, called by a letter and a number, and its batch of no rows.
func wide(t *testing.T, letter string, n int) (api.Schema, api.Batch) {
	var s api.Schema
	var b api.Batch
	for i := range n {
		f := field(t, "int8")
		f.Name = letter + string(rune('A'+i/10)) + string(rune('0'+i%10))
		s.Fields, b.Columns = append(s.Fields, f), append(b.Columns, data(t, f))
	}
	return s, b
}

// P15.3: what kind.Check tells of both schemas together.
func TestBesideSchema(t *testing.T) {
	s1, b1 := wide(t, "a", 20)
	for n, want := range map[int]api.Errno{12: api.OK, 13: api.ErrMany} {
		s2, b2 := wide(t, "b", n)
		s, b, e := Beside(s1, b1, s2, b2)
		if e != want || e == api.OK && (len(s.Fields) != 32 || len(b.Columns) != 32) {
			t.Errorf("20 fields and %d: %d fields, %d", n, len(s.Fields), e)
		}
	}
	nodes := func(name string, n int) (api.Schema, api.Batch) {
		var s api.Schema
		for n > 0 {
			inner, _ := wide(t, name, min(n-1, 31))
			f := api.Field{Name: name + string(rune('a'+len(s.Fields))), Type: api.Type{Kind: api.Struct, Fields: inner.Fields}}
			s.Fields, n = append(s.Fields, f), n-1-len(inner.Fields)
		}
		b, e, _ := build.Batch(s, nil)
		if e != api.OK {
			t.Fatalf("Batch: %d", e)
		}
		return s, b
	}
	s1, b1 = nodes("a", 128)
	for n, want := range map[int]api.Errno{128: api.OK, 129: api.ErrMany} {
		s2, b2 := nodes("b", n)
		if _, _, e := Beside(s1, b1, s2, b2); e != want {
			t.Errorf("128 fields in all and %d: %d", n, e)
		}
	}
	text := func(text string) (api.Schema, api.Batch) {
		s := schema(t, text)
		b, _, _ := build.Batch(s, nil)
		return s, b
	}
	for _, x := range []struct {
		one, two string
		want     api.Errno
	}{
		{"a dict(0, int8, w text)", "b dict(0, int8, w text)", api.ErrDict},
		{"a dict(0, int8, w text)", "b list(i dict(0, int8, w text))", api.ErrDict},
		{"a dict(0, int8, w text)", "b dict(1, int8, w text)", api.OK},
		{"a dict(0, int8, w text)", "b dict(0, int8, w text), a int8", api.ErrDict},
		{"a dict(0, int8, w text)", "a dict(0, int8, w text)", api.ErrTwice},
		{"", "", api.OK},
		{"a int8", "", api.OK},
		{"", "a int8", api.OK},
		{"a struct(a int8)", "b struct(a int8)", api.OK},
	} {
		s1, b1 := text(x.one)
		s2, b2 := text(x.two)
		s, b, e := Beside(s1, b1, s2, b2)
		want, all, _ := modelBeside(s1, b1, s2, b2)
		holdsBatch(t, x.one+" beside "+x.two, b, e, all, x.want)
		if !sameSchema(s, want) {
			t.Errorf("%s beside %s: %v", x.one, x.two, s)
		}
	}
}

// P15.3: the notes of neither schema come along, however many they are.
func TestBesideNotes(t *testing.T) {
	s1, s2 := schema(t, "a int8"), schema(t, "b int8")
	s1.Notes, s2.Notes = times(16, api.Note{Key: "k", Text: "x"}), times(16, api.Note{Key: "l"})
	s, b, e := Beside(s1, ints(1), s2, ints(2))
	holdsBatch(t, "Beside", b, e, batchOf(ints(1).Columns[0], ints(2).Columns[0]), api.OK)
	if len(s.Notes) != 0 || len(s.Fields) != 2 || s.Fields[0].Name != "a" || s.Fields[1].Name != "b" {
		t.Errorf("Beside: %v", s)
	}
	s1.Notes = append(s1.Notes, api.Note{})
	_, b, e = Beside(s1, ints(1), s2, ints(2))
	holdsBatch(t, "Beside of 17 notes", b, e, api.Batch{}, api.ErrType)
}

// P15.3: rows without columns stand beside others.
func TestBesideNoColumns(t *testing.T) {
	none, s := schema(t, ""), schema(t, "a int8")
	_, b, e := Beside(none, api.Batch{Rows: 2}, s, ints(1, 2))
	holdsBatch(t, "no columns beside one", b, e, ints(1, 2), api.OK)
	_, b, e = Beside(s, ints(1, 2), none, api.Batch{Rows: 2})
	holdsBatch(t, "one beside no columns", b, e, ints(1, 2), api.OK)
	_, b, e = Beside(none, api.Batch{Rows: 2}, none, api.Batch{Rows: 2})
	holdsBatch(t, "no columns at all", b, e, api.Batch{Rows: 2}, api.OK)
	_, b, e = Beside(none, api.Batch{Rows: 2}, s, ints(1))
	holdsBatch(t, "unlike rows", b, e, api.Batch{}, api.ErrUnlike)
}

// Side by side the first column that can't be built decides; in pieces the first row of the first piece.
func TestColumnsAndRows(t *testing.T) {
	bytes, items := schema(t, "a choice(t text)"), schema(t, "b choice(l list(i int8))")
	a, b := batchOf(again(10, 10000)), batchOf(againItems(10, 3000))
	_, got, e := Beside(bytes, a, items, b)
	holdsBatch(t, "bytes beside items", got, e, api.Batch{}, api.ErrBytes)
	_, got, e = Beside(items, b, bytes, a)
	holdsBatch(t, "items beside bytes", got, e, api.Batch{}, api.ErrRows)

	s := schema(t, "a choice(t text), b choice(l list(i int8))")
	both := batchOf(a.Columns[0], b.Columns[0])
	l, e := Cut(s, both, 10)
	holdsBatches(t, "Cut", l, e, nil, api.ErrRows)
	x, e := Even(api.Table{Schema: s, Batches: []api.Batch{both}}, 10)
	holdsTable(t, "Even", x, e, api.Table{}, api.ErrRows)
	got, e = Batches(s, []api.Batch{both})
	holdsBatch(t, "Batches", got, e, api.Batch{}, api.ErrRows)
	l, e = Cut(s, both, 1)
	if e != api.OK || len(l) != 10 {
		t.Errorf("Cut by 1: %d batches, %d", len(l), e)
	}
}
