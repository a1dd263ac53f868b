package file

import (
	"bytes"
	"slices"
	"strconv"
	"strings"
	"testing"

	"colonnade/api"
	"colonnade/build"
	"colonnade/stream"
)

// choices is two rows that name one list of n items: an array, but with too many items it has no build form.
func choices(n int) api.Data {
	items := api.Data{Length: n, Buffers: [][]byte{nil, make([]byte, n)}}
	one := api.Data{Length: 1, Buffers: [][]byte{nil, laidNumbers(0, n)}, Children: []api.Data{items}}
	return api.Data{Length: 2, Buffers: [][]byte{{0, 0}, make([]byte, 8)}, Children: []api.Data{one}}
}

// P13.1: what is told first, where Put may be refused for several things.
func TestPutWhich(t *testing.T) {
	good := small(t)
	none := api.Table{Schema: api.Schema{Fields: []api.Field{{Name: "a", Type: api.Type{Kind: 99}}}}, Batches: []api.Batch{{Rows: -1}}}
	wrong := small(t)
	wrong.Batches[1] = api.Batch{Rows: -1}
	later := small(t)
	later.Batches = append(later.Batches, api.Batch{Rows: 1, Columns: []api.Data{{Length: 1, Buffers: [][]byte{nil, nil}}}}, api.Batch{})
	formless := api.Table{Schema: schema(t, "c choice(l list(i int8))"), Batches: []api.Batch{{Rows: 2, Columns: []api.Data{choices(2049)}}}}
	long := make([]byte, 65537)
	for i, c := range []struct {
		table api.Table
		press int
		extra []byte
		e     api.Errno
	}{
		{none, 3, long, api.ErrType},
		{none, 0, nil, api.ErrType},
		{wrong, 3, long, api.ErrArg},
		{wrong, -1, nil, api.ErrArg},
		{wrong, 1 << 40, nil, api.ErrArg},
		{wrong, 0, long, api.ErrBytes},
		{wrong, 0, long[1:], api.ErrColumns},
		{later, 0, nil, api.ErrSmall},
		{formless, 0, nil, api.ErrRows},
		{good, 2, long[1:], api.OK},
	} {
		b, e := Put(c.table, api.Option{Press: c.press}, c.extra)
		if e != c.e || (b == nil) != (e != api.OK) {
			t.Errorf("%d: %d bytes, %d, wanted %d", i, len(b), e, c.e)
		}
	}
	formless.Batches[0].Columns[0] = choices(2048)
	f := opened(t, put(t, formless, api.Option{}, nil))
	if b, x := f.Batch(0); x.Err != api.OK || !sameForms(formless.Schema, b, formless.Batches[0]) {
		t.Errorf("just as many items as can be: %+v", x)
	}
}

// P13.1: a table of MaxBatches batches has a file, one of more has none, whatever is wrong with that one; what is wrong ahead of it is told first.
func TestMostBatches(t *testing.T) {
	table := api.Table{Schema: schema(t, "d dict(0, uint8, w int64)")}
	for i := range api.MaxBatches {
		table.Batches = append(table.Batches, column(t, table.Schema, strconv.Itoa(i)))
	}
	f := opened(t, put(t, table, api.Option{Delta: true}, nil))
	if x := f.Check(); f.Len() != 256 || x.Err != api.OK {
		t.Errorf("%d batches: %+v", f.Len(), x)
	}
	tells(t, f, 255, "255")
	for i, b := range f.All() {
		if l := texts(t, f, b); !slices.Equal(l, []string{strconv.Itoa(i)}) {
			t.Errorf("batch %d: %v", i, l)
		}
	}
	for _, b := range []api.Batch{table.Batches[0], {Rows: -1}} {
		more := api.Table{Schema: table.Schema, Batches: append(slices.Clip(table.Batches), b)}
		if _, e := Put(more, api.Option{Delta: true}, nil); e != api.ErrRange {
			t.Errorf("one batch more: %d", e)
		}
		more.Batches[255] = api.Batch{Rows: -1}
		if _, e := Put(more, api.Option{Delta: true}, nil); e != api.ErrColumns {
			t.Errorf("a wrong batch ahead of it: %d", e)
		}
	}
}

// wide is a table of batches of n rows of 32 columns that are hard to pack; each has some 2 MB, where n is MaxRows.
func wide(t testing.TB, rows ...int) api.Table {
	t.Helper()
	var l []string
	for i := range 32 {
		l = append(l, "c"+strconv.Itoa(i)+" fixed(16)")
	}
	table := api.Table{Schema: schema(t, strings.Join(l, ", "))}
	for _, n := range rows {
		b := api.Batch{Rows: n}
		for range 32 {
			b.Columns = append(b.Columns, api.Data{Length: n, Buffers: [][]byte{nil, bytes.Repeat([]byte("0123456789abcdef"), n)}})
		}
		table.Batches = append(table.Batches, b)
	}
	return table
}

// most is a table whose file, with so many extra bytes, has just MaxFile bytes.
func most(t testing.TB) (table api.Table, extra int) {
	t.Helper()
	full := []int{4096, 4096, 4096, 4096, 4096, 4096, 4096}
	rest := api.MaxFile - len(put(t, wide(t, append(full, 0)...), api.Option{}, nil))
	table = wide(t, append(full, (rest-1)/512)...)
	return table, api.MaxFile - len(put(t, table, api.Option{}, nil))
}

// P13.1, P13.2: a file of just MaxFile bytes is told and opens; one of one byte more is refused, but for a batch that is wrong.
func TestMostBytes(t *testing.T) {
	table, n := most(t)
	b := put(t, table, api.Option{}, make([]byte, n))
	if len(b) != api.MaxFile || n > 512 || n == 0 {
		t.Fatalf("%d bytes, %d of them extra", len(b), n)
	}
	f := opened(t, b)
	if x := f.Check(); x.Err != api.OK || f.Len() != 8 {
		t.Errorf("Check: %+v", x)
	}
	if got, x := f.Some(7, []int{31}); x.Err != api.OK || !sameData(got.Columns[0], table.Batches[7].Columns[31]) {
		t.Errorf("Some(7, 31): %+v", x)
	}
	if b, e := Put(table, api.Option{}, make([]byte, n+1)); e != api.ErrBytes || b != nil {
		t.Errorf("one byte more: %d bytes, %d", len(b), e)
	}
	table.Batches[7] = wide(t, table.Batches[7].Rows+1).Batches[0]
	if _, e := Put(table, api.Option{}, nil); e != api.ErrBytes {
		t.Errorf("one row more: %d", e)
	}
	if f, x := Open(make([]byte, api.MaxFile+1)); f != nil || !isFault(x, api.ErrBytes, api.MaxFile) {
		t.Errorf("Open of too much: %+v", x)
	}
	if f, x := Open(append(b, 0)); f != nil || !isFault(x, api.ErrBytes, api.MaxFile) {
		t.Errorf("Open of a file and a byte: %+v", x)
	}
	if f, x := Open(make([]byte, api.MaxFile)); f != nil || !isFault(x, api.ErrFoot, 0) {
		t.Errorf("Open of zeros: %+v", x)
	}
}

// P13.1: that a file is too long is told behind all that is wrong with batches.
func TestTooLong(t *testing.T) {
	table := wide(t, 4096, 4096, 4096, 4096, 4096, 4096, 4096, 4096, 1, 4096)
	if _, e := Put(table, api.Option{}, nil); e != api.ErrBytes {
		t.Errorf("too long: %d", e)
	}
	table.Batches = append(table.Batches, wide(t, 1).Batches[0])
	table.Batches[10].Columns[31].Nulls = 1
	if _, e := Put(table, api.Option{}, nil); e != api.ErrLength {
		t.Errorf("too long, and a wrong batch: %d", e)
	}
	table.Batches = table.Batches[:10]
	for len(table.Batches) < 257 {
		table.Batches = append(table.Batches, table.Batches[8])
	}
	if _, e := Put(table, api.Option{}, nil); e != api.ErrRange {
		t.Errorf("too long, and too many: %d", e)
	}
}

// The extra bytes don't hang on what they are: as many as may be, and none.
func TestExtra(t *testing.T) {
	every := make([]byte, 65536)
	for i := range every {
		every[i] = byte(i * 7)
	}
	for _, extra := range [][]byte{nil, {}, {0}, []byte(mark), every} {
		f := opened(t, put(t, small(t), api.Option{}, extra))
		if !bytes.Equal(f.Extra(), extra) {
			t.Errorf("%d extra bytes: %d", len(extra), len(f.Extra()))
		}
		tells(t, f, 0, "1", "2")
	}
}

// A table without columns has rows all the same; what is deep and what is heavy is written and read.
func TestGreat(t *testing.T) {
	none := api.Table{Schema: schema(t, `| "k" "v"`), Batches: []api.Batch{{Rows: 4096}, {}, {Rows: 1}}}
	f := opened(t, put(t, none, api.Option{Press: api.PressRuns}, nil))
	for i, want := range none.Batches {
		if b, x := f.Batch(i); x.Err != api.OK || !sameBatch(b, want) || f.Rows(i) != want.Rows {
			t.Errorf("no columns: batch %d: %+v", i, x)
		}
	}
	text, v := "w text", api.Value{Text: "x"}
	for range 31 {
		text, v = "l list(s struct("+text+"))", api.Value{List: []api.Value{{List: []api.Value{v}}}}
	}
	deep := api.Table{Schema: schema(t, "d dict(0, int8, "+text+")")}
	d, e, _ := build.Batch(deep.Schema, [][]api.Value{{v}, {v}})
	if e != api.OK {
		t.Fatal(e)
	}
	deep.Batches = []api.Batch{d, d}
	f = opened(t, put(t, deep, api.Option{Press: api.PressBack}, nil))
	if b, x := f.Batch(1); x.Err != api.OK || !sameBatch(b, d) || printed(f.Schema()) != printed(deep.Schema) {
		t.Errorf("deep: %+v", x)
	}
	// 26 texts of 2,000 bytes that 2,000 rows name: 2,000 times 2,016 is within MaxWeight.
	values := make([]string, 2000)
	for i := range values {
		values[i] = `"` + strings.Repeat(string(rune('A'+i%26)), 2000) + `"`
	}
	heavy := tableOf(t, "d dict(0, uint8, w text)", values, values)
	f = opened(t, put(t, heavy, api.Option{Delta: true}, nil))
	if b, x := f.Batch(1); x.Err != api.OK || !sameBatch(b, heavy.Batches[1]) {
		t.Errorf("heavy: %+v", x)
	}
}

// Whatever is handed in, each call ends: schemas and arrays that stand in themselves, numbers of all kinds.
func TestEnds(t *testing.T) {
	fields := make([]api.Field, 1)
	fields[0] = api.Field{Name: "a", Type: api.Type{Kind: api.Struct, Fields: fields}}
	if b, e := Put(api.Table{Schema: api.Schema{Fields: fields}}, api.Option{}, nil); b != nil || e != api.ErrType {
		t.Errorf("a schema in itself: %d", e)
	}
	ring := make([]api.Data, 1)
	ring[0] = api.Data{Length: 1, Buffers: [][]byte{nil}, Children: ring, Dict: ring}
	for text, want := range map[string]api.Errno{
		"a struct(b struct(c int8))": api.ErrShape,
		"d dict(0, int8, w text)":    api.ErrShape,
		"":                           api.ErrColumns,
		"a int8, b int8":             api.ErrColumns,
	} {
		table := api.Table{Schema: schema(t, text), Batches: []api.Batch{{Rows: 1, Columns: ring}}}
		if b, e := Put(table, api.Option{}, nil); b != nil || e != want {
			t.Errorf("%s: an array in itself: %d", text, e)
		}
	}
	f := opened(t, put(t, small(t), api.Option{}, nil))
	for _, i := range []int{-1 << 63, -2, -1, 2, 3, 1<<63 - 1} {
		if b, x := f.Batch(i); !isFault(x, api.ErrRange, i) || !sameBatch(b, api.Batch{}) {
			t.Errorf("Batch(%d): %+v", i, x)
		}
		if k, e := f.Block(i); e != api.ErrRange || k != (api.Block{}) || f.Rows(i) != 0 {
			t.Errorf("Block(%d): %+v, %d", i, k, e)
		}
		if _, x := f.Some(0, []int{0, i}); i != 1 && !isFault(x, api.ErrRange, 1) {
			t.Errorf("Some(0, 0 %d): %+v", i, x)
		}
	}
}

// P13.3: the bytes between the mark and the foot are those that a writer writes.
func TestWithin(t *testing.T) {
	table := tableOf(t, `d dict(3, int8, w text) | "k" "v"`, []string{`"x"`, `"y"`}, []string{`"z"`}, []string{`"y"`})
	for press := range 3 {
		o := api.Option{Press: press, Delta: true}
		w, _ := stream.NewWriter(table.Schema, o)
		for _, b := range table.Batches {
			w.Write(b)
		}
		w.Close()
		b := put(t, table, o, []byte("more"))
		if got := slices.Concat(streamIn(b)...); !bytes.Equal(got, w.Take()) {
			t.Errorf("press %d: another stream", press)
		}
		within(t, opened(t, b), slices.Concat(streamIn(b)...))
	}
}
