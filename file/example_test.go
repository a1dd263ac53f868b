package file

import (
	"bytes"
	"slices"
	"testing"

	"colonnade/api"
	"colonnade/build"
	"colonnade/frame"
	"colonnade/kind"
	"colonnade/value"
)

// schema reads a schema.
func schema(t testing.TB, text string) api.Schema {
	t.Helper()
	s, e, at := kind.Parse(text)
	if e != api.OK {
		t.Fatalf("%s: %d at %d", text, e, at)
	}
	return s
}

// column is a batch of one column, in build form, of values as they are written.
func column(t testing.TB, s api.Schema, texts ...string) api.Batch {
	t.Helper()
	var rows [][]api.Value
	for _, text := range texts {
		v, e, at := value.Parse(s.Fields[0], text)
		if e != api.OK {
			t.Fatalf("%s: %d at %d", text, e, at)
		}
		rows = append(rows, []api.Value{v})
	}
	b, e, at := build.Batch(s, rows)
	if e != api.OK {
		t.Fatalf("%v: %d at %d", texts, e, at)
	}
	return b
}

// tableOf is a table of a schema; each list of texts is a batch of one column.
func tableOf(t testing.TB, text string, batches ...[]string) api.Table {
	t.Helper()
	table := api.Table{Schema: schema(t, text)}
	for _, l := range batches {
		table.Batches = append(table.Batches, column(t, table.Schema, l...))
	}
	return table
}

// small is the chapter's table of two batches.
func small(t testing.TB) api.Table {
	t.Helper()
	return tableOf(t, "a int8", []string{"1", "2"}, []string{"3"})
}

// texts tells the values of a batch's only column as they are written.
func texts(t testing.TB, f *File, b api.Batch) []string {
	t.Helper()
	var l []string
	field := f.Schema().Fields[0]
	for _, v := range denoted(field, b.Columns[0]) {
		text, e := value.Print(field, v)
		if e != api.OK {
			t.Fatal(e)
		}
		l = append(l, text)
	}
	return l
}

// tells looks whether Batch tells just these values of a file of one column.
func tells(t testing.TB, f *File, i int, want ...string) {
	t.Helper()
	b, x := f.Batch(i)
	if x.Err != api.OK {
		t.Errorf("Batch(%d): %+v", i, x)
		return
	}
	if l := texts(t, f, b); !slices.Equal(l, want) {
		t.Errorf("Batch(%d): %v, wanted %v", i, l, want)
	}
}

// isFault tells whether a fault says so.
func isFault(x api.Fault, e api.Errno, at int, path ...int) bool {
	return sameFault(x, api.Fault{Err: e, At: at, Path: path})
}

// P13.1, the chapter's example 1: the bytes of a small file.
func TestExampleBytes(t *testing.T) {
	b := put(t, small(t), api.Option{}, nil)
	l := streamIn(b)
	if string(b[:8]) != "COLFILE1" || string(b[len(b)-8:]) != "COLFILE1" {
		t.Errorf("the marks: %q", b)
	}
	if len(l) != 4 || len(l[0]) != 24+16 || !bytes.Equal(l[3], frame.Close()) {
		t.Errorf("the stream: %d messages", len(l))
	}
	if n := len(b) - 8 - len(slices.Concat(l...)) - 20; n != 80 || numberAt(b, len(b)-20) != 80 || numberAt(b, len(b)-16) != 1<<32-1-80 {
		t.Errorf("the foot has %d bytes", n)
	}
	foot := len(b) - 100
	second := 48 + len(l[1])
	want := laidNumbers(3,
		1, 8, 12, 0, 0, 0,
		3, 48, numberAt(b, 52), numberAt(b, 56), 2, 0,
		3, second, numberAt(b, second+4), numberAt(b, second+8), 1, 0,
		0)
	if !bytes.Equal(b[foot:foot+80], want) {
		t.Errorf("the foot: % x, wanted % x", b[foot:foot+80], want)
	}
}

// P13.1, the chapter's example 1: what is told of it.
func TestExampleOpen(t *testing.T) {
	f := opened(t, put(t, small(t), api.Option{}, nil))
	if f.Len() != 2 || f.Rows(0) != 2 || f.Rows(1) != 1 || f.Rows(2) != 0 || len(f.Extra()) != 0 || printed(f.Schema()) != "a int8" {
		t.Errorf("Len %d, Rows %d %d %d", f.Len(), f.Rows(0), f.Rows(1), f.Rows(2))
	}
	if k, e := f.Block(0); e != api.OK || k.At != 48 || k.Rows != 2 || k.Body != 8 {
		t.Errorf("Block(0): %+v, %d", k, e)
	}
	tells(t, f, 0, "1", "2")
	tells(t, f, 1, "3")
	if b, x := f.Some(0, nil); x.Err != api.OK || b.Rows != 2 || len(b.Columns) != 0 {
		t.Errorf("Some(0, none): %+v, %+v", b, x)
	}
	if b, x := f.Some(2, nil); !isFault(x, api.ErrRange, 2) || !sameBatch(b, api.Batch{}) {
		t.Errorf("Some(2, none): %+v", x)
	}
	if b, x := f.Some(0, []int{1}); !isFault(x, api.ErrRange, 0) || !sameBatch(b, api.Batch{}) {
		t.Errorf("Some(0, 1): %+v", x)
	}
	if x := f.Check(); !isFault(x, api.OK, 0) {
		t.Errorf("Check: %+v", x)
	}
}

// P13.1, the chapter's example 2.
func TestExampleWrong(t *testing.T) {
	if f, x := Open(nil); f != nil || !isFault(x, api.ErrFoot, 0) {
		t.Errorf("Open of nothing: %+v", x)
	}
	b := put(t, small(t), api.Option{}, nil)
	if f, x := Open(b[:len(b)-1]); f != nil || !isFault(x, api.ErrFoot, len(b)-21) {
		t.Errorf("without the last byte: %+v", x)
	}
	b[48] ^= 2
	f := opened(t, b)
	if got, x := f.Batch(0); !isFault(x, api.ErrBlock, 1) || !sameBatch(got, api.Batch{}) {
		t.Errorf("Batch(0): %+v", x)
	}
	tells(t, f, 1, "3")
	if x := f.Check(); !isFault(x, api.ErrBlock, 1, 0) {
		t.Errorf("Check: %+v", x)
	}
	for i := range f.All() {
		t.Errorf("All gives the batch %d", i)
	}
}

// P13.1, the chapter's examples 3 and 4.
func TestExampleRefused(t *testing.T) {
	two := small(t)
	two.Batches[1].Columns = append(two.Batches[1].Columns, two.Batches[1].Columns[0])
	for _, c := range []struct {
		table api.Table
		press int
		extra int
		e     api.Errno
	}{
		{small(t), 3, 0, api.ErrArg}, {two, 0, 0, api.ErrColumns}, {small(t), 0, 65537, api.ErrBytes}, {small(t), 0, 65536, api.OK},
	} {
		b, e := Put(c.table, api.Option{Press: c.press}, make([]byte, c.extra))
		if e != c.e || (b == nil) != (e != api.OK) {
			t.Errorf("press %d, %d extra bytes: %d bytes, %d, wanted %d", c.press, c.extra, len(b), e, c.e)
		}
	}
	none := opened(t, put(t, tableOf(t, "a int8"), api.Option{}, nil))
	if x := none.Check(); none.Len() != 0 || !isFault(x, api.OK, 0) {
		t.Errorf("no batches: Len %d, Check %+v", none.Len(), x)
	}
	for range none.All() {
		t.Error("no batches: All gives one")
	}
}

// W6, the document's second example of the whole: a table with a dictionary, by any option.
func TestExampleDictionary(t *testing.T) {
	table := tableOf(t, "d dict(0, uint8, w text)?", []string{`"b"`, "null", `"a"`, `"b"`}, []string{`"c"`}, nil, []string{`"a"`, `"c"`})
	for press := range 3 {
		for _, delta := range []bool{false, true} {
			b := put(t, table, api.Option{Press: press, Delta: delta}, nil)
			kinds := ""
			for _, e := range entriesOf(streamIn(b)) {
				kinds += string(rune('0' + e[0]))
			}
			if kinds != "1232333" {
				t.Errorf("the entries: %s", kinds)
			}
			f := opened(t, b)
			tells(t, f, 3, `"a"`, `"c"`)
			tells(t, f, 0, `"b"`, "null", `"a"`, `"b"`)
			tells(t, f, 1, `"c"`)
			tells(t, f, 2)
		}
	}
}
