package stream

import (
	"bytes"
	"errors"
	"slices"
	"strconv"
	"strings"
	"testing"

	"colonnade/api"
	"colonnade/batch"
	"colonnade/build"
	"colonnade/frame"
)

// P12.2, P12.3: whatever is written, in whatever order, refused batches between, the bytes are those that the chapter's words say, also when they are taken bit by bit.
func TestWriteAny(t *testing.T) {
	c := newChance(1)
	seen := map[api.Errno]int{}
	dictionaries := 0
	for range 2500 {
		s := c.schema(4)
		o := c.option()
		w, m := newWriter(t, s, o), newModelWriter(s, o)
		var got []byte
		for range c.Intn(8) {
			b := c.batch(s, c.Intn(9))
			for range c.Intn(4) / 3 {
				c.hurt(&b)
			}
			n, want := len(m.messages), m.write(b)
			e := w.Write(b)
			if want == api.OK && e != nil || want != api.OK && !isWrong(e, n, want) {
				t.Fatalf("%s: Write: %v; wanted %d at %d", printed(s), e, want, n)
			}
			seen[want]++
			if c.Intn(2) == 0 {
				got = append(got, w.Take()...)
			}
		}
		got = append(got, w.Take()...)
		if !bytes.Equal(got, slices.Concat(m.messages...)) {
			t.Fatalf("%s, %+v: other bytes", printed(s), o)
		}
		dictionaries += len(m.messages) - 1 - m.batches
	}
	for _, e := range []api.Errno{api.OK, api.ErrColumns, api.ErrShape, api.ErrLength, api.ErrSmall, api.ErrOffsets, api.ErrIndex} {
		if seen[e] < 5 {
			t.Errorf("the error %d is told %d times", e, seen[e])
		}
	}
	if dictionaries < 1000 {
		t.Errorf("%d dictionary messages", dictionaries)
	}
}

// P12.1: which schemas and options a writer takes, and what it has written then.
func TestNewWriter(t *testing.T) {
	good := schema(t, `a int8, d dict(3, int8, w text) | "k" "v", "" "\xff"`)
	twice := api.Schema{Fields: append(schema(t, "a int8").Fields, schema(t, "a int8").Fields...)}
	for press := range 3 {
		w := newWriter(t, good, api.Option{Press: press, Delta: true})
		want := modelMessage(api.Head{Kind: api.HeadSchema, Schema: good}, nil)
		if b := w.Take(); !bytes.Equal(b, want) {
			t.Errorf("press %d: % x", press, b)
		}
	}
	for _, press := range []int{-1, 3, 1 << 40, -1 << 63} {
		if w, e := NewWriter(good, api.Option{Press: press}); w != nil || e != error(api.ErrArg) {
			t.Errorf("press %d: %v", press, e)
		}
		if w, e := NewWriter(twice, api.Option{Press: press}); w != nil || e != error(api.ErrType) {
			t.Errorf("no schema, press %d: %v", press, e)
		}
	}
	if w, e := NewWriter(twice, api.Option{}); w != nil || e != error(api.ErrType) {
		t.Errorf("no schema: %v", e)
	}
	noted := api.Schema{Notes: make([]api.Note, api.MaxNotes+1)}
	if w, e := NewWriter(noted, api.Option{}); w != nil || e != error(api.ErrType) {
		t.Errorf("too many notes: %v", e)
	}
	noted.Notes = noted.Notes[1:]
	if b := newWriter(t, noted, api.Option{}).Take(); len(messagesOf(b)) != 1 {
		t.Errorf("many notes: % x", b)
	}
}

// P12.2: of what is wrong with a batch the first is told, and the number of messages so far, dictionaries counted.
func TestWriteWhich(t *testing.T) {
	s := schema(t, "d dict(0, uint8, w text)?, c choice(l list(i int8))")
	w := newWriter(t, s, api.Option{})
	b := api.Batch{Rows: 0, Columns: []api.Data{{Buffers: [][]byte{nil, nil}}, {Buffers: [][]byte{nil, nil}}}}
	if e := w.Write(b); !isWrong(e, 1, api.ErrShape) {
		t.Errorf("no dictionary: %v", e)
	}
	good := wordsAndLists(t, s, 2)
	if e := w.Write(good); e != nil {
		t.Fatal(e)
	}
	if e := w.Write(api.Batch{Rows: -1}); !isWrong(e, 3, api.ErrColumns) {
		t.Errorf("below 0 rows, behind a dictionary and a batch: %v", e)
	}
	// A Choice that names the rows of a long list again and again is an array, but has no build form.
	long := wordsAndLists(t, s, 2)
	long.Columns[1] = choices(4000)
	if x := batch.Check(s, long); x.Err != api.OK {
		t.Fatalf("no batch: %+v", x)
	}
	if e := w.Write(long); !isWrong(e, 3, api.ErrRows) {
		t.Errorf("no build form: %v", e)
	}
	long.Columns[0].Buffers[1] = []byte{0, 9}
	if e := w.Write(long); !isWrong(e, 3, api.ErrIndex) {
		t.Errorf("no array and no build form: %v", e)
	}
	// Likewise bytes that two rows name.
	s = schema(t, "a choice(l list(i int8)), b choice(t bytes)")
	w = newWriter(t, s, api.Option{})
	both := api.Batch{Rows: 2, Columns: []api.Data{choices(4000), texts(40000)}}
	if e := w.Write(both); !isWrong(e, 1, api.ErrRows) {
		t.Errorf("the first column's error: %v", e)
	}
	s = schema(t, "a choice(t bytes), b choice(l list(i int8))")
	w = newWriter(t, s, api.Option{})
	both = api.Batch{Rows: 2, Columns: []api.Data{texts(40000), choices(4000)}}
	if e := w.Write(both); !isWrong(e, 1, api.ErrBytes) {
		t.Errorf("the other first column's error: %v", e)
	}
	both.Columns = []api.Data{texts(32768), choices(2048)}
	if e := w.Write(both); e != nil {
		t.Errorf("just as much as can be: %v", e)
	}
}

// wordsAndLists is a batch of a Dict and a Choice of lists.
func wordsAndLists(t *testing.T, s api.Schema, rows int) api.Batch {
	t.Helper()
	var l [][]api.Value
	for range rows {
		l = append(l, []api.Value{{Text: "x"}, {List: []api.Value{{}}}})
	}
	b, e, _ := build.Batch(s, l)
	if e != api.OK {
		t.Fatal(e)
	}
	return b
}

// choices is two rows that name one list of n items.
func choices(n int) api.Data {
	items := api.Data{Length: n, Buffers: [][]byte{nil, make([]byte, n)}}
	one := api.Data{Length: 1, Buffers: [][]byte{nil, {0, 0, 0, 0, byte(n), byte(n >> 8), 0, 0}}, Children: []api.Data{items}}
	return api.Data{Length: 2, Buffers: [][]byte{{0, 0}, make([]byte, 8)}, Children: []api.Data{one}}
}

// texts is two rows that name one text of n bytes.
func texts(n int) api.Data {
	one := api.Data{Length: 1, Buffers: [][]byte{nil, {0, 0, 0, 0, byte(n), byte(n >> 8), 0, 0}, make([]byte, n)}}
	return api.Data{Length: 2, Buffers: [][]byte{{0, 0}, make([]byte, 8)}, Children: []api.Data{one}}
}

// P12.2, 1: MaxBatches batches are written, and no more, whatever is wrong with the next one; the dictionaries don't count.
func TestMostWritten(t *testing.T) {
	s := schema(t, "d dict(0, uint8, w int64)")
	w := newWriter(t, s, api.Option{Delta: true})
	for i := range api.MaxBatches {
		if e := w.Write(column(t, s, strconv.Itoa(i))); e != nil {
			t.Fatalf("batch %d: %v", i, e)
		}
		if e := w.Write(api.Batch{}); i < api.MaxBatches-1 && !isWrong(e, 2*i+3, api.ErrColumns) {
			t.Fatalf("a wrong batch behind %d: %v", i, e)
		}
	}
	w.Take()
	for _, b := range []api.Batch{column(t, s, "1"), {}} {
		if e := w.Write(b); !isWrong(e, 1+2*api.MaxBatches, api.ErrRange) {
			t.Errorf("one batch more: %v", e)
		}
	}
	if e := w.Close(); e != nil || !bytes.Equal(w.Take(), frame.Close()) {
		t.Errorf("Close: %v", e)
	}
	if e := w.Write(column(t, s, "1")); e != ErrClosed {
		t.Errorf("behind Close: %v", e)
	}
}

// wide is a schema's text of a struct, Nullable, of n numbers of eight bytes.
func wide(name string, n int) string {
	var l []string
	for i := range n {
		l = append(l, name+strconv.Itoa(i)+" int64")
	}
	return name + " struct(" + strings.Join(l, ", ") + ")?"
}

// P12.2, 5: a body of just as many bytes as may be, and one of more; a batch that is refused leaves nothing behind, what its dictionary would have told least of all.
func TestBodies(t *testing.T) {
	s := schema(t, "d dict(0, uint8, w text), t bytes, "+wide("x", 32)+", "+wide("y", 32)+", "+wide("z", 32)+", "+wide("u", 31))
	// The dictionary's indices, the offsets of t brought to a multiple of 8, the validities of the structs and their numbers; what is left are the bytes of t.
	left := api.MaxBody - 4096 - 16392 - 4*512 - 127*8*4096
	w := newWriter(t, s, api.Option{Delta: true})
	w.Take()
	if e := w.Write(full(t, s, left+1)); !isWrong(e, 1, api.ErrBytes) {
		t.Errorf("a body that is too long: %v", e)
	}
	if b := w.Take(); len(b) != 0 {
		t.Errorf("%d bytes were written", len(b))
	}
	heads, bodies := written(t, w, full(t, s, left))
	if len(heads) != 2 || heads[0].Kind != api.HeadDict || heads[0].Delta || len(bodies[1]) != api.MaxBody {
		t.Errorf("behind it %d messages", len(heads))
	}
	if e := w.Write(full(t, s, left+1)); !isWrong(e, 3, api.ErrBytes) {
		t.Errorf("a body that is too long, behind two messages: %v", e)
	}
	w = newWriter(t, s, api.Option{Press: api.PressRuns})
	if e := w.Write(full(t, s, left+1)); e != nil {
		t.Errorf("packed it is shorter: %v", e)
	}
}

// full is a batch of MaxRows rows: of a Dict "x", of a struct null, of Bytes n bytes in the first one.
func full(t *testing.T, s api.Schema, n int) api.Batch {
	t.Helper()
	row := func(text int) []api.Value {
		l := []api.Value{{Text: "x"}, {Text: strings.Repeat("y", text)}}
		for range s.Fields[2:] {
			l = append(l, api.Value{Null: true})
		}
		return l
	}
	rows := [][]api.Value{row(n)}
	for range api.MaxRows - 1 {
		rows = append(rows, row(0))
	}
	b, e, at := build.Batch(s, rows)
	if e != api.OK {
		t.Fatalf("%d at %d", e, at)
	}
	return b
}

// P12.2, 4: a dictionary whose body is too long is refused; that of a field ahead of it is not known then.
func TestDictionaryBodies(t *testing.T) {
	parts := strings.Join([]string{wide("x", 31), wide("y", 31), wide("z", 31), wide("u", 31), wide("v", 31)}, ", ")
	s := schema(t, "a dict(0, uint8, w text), d dict(1, uint16, w struct(n int16, "+parts+"))")
	some := func(from, n int) api.Batch {
		var l [][]api.Value
		for i := range n {
			null := api.Value{Null: true}
			l = append(l, []api.Value{{Text: "x"}, {List: []api.Value{{Num: int64(from + i)}, null, null, null, null, null}}})
		}
		b, e, at := build.Batch(s, l)
		if e != api.OK {
			t.Fatalf("%d at %d", e, at)
		}
		return b
	}
	w := newWriter(t, s, api.Option{Delta: true})
	w.Take()
	if e := w.Write(some(0, 4096)); !isWrong(e, 1, api.ErrBytes) || len(w.Take()) != 0 {
		t.Errorf("a dictionary that is too long: %v", e)
	}
	heads, _ := written(t, w, some(0, 3000))
	if len(heads) != 3 || heads[0].ID != 0 || heads[1].ID != 1 || heads[0].Delta || heads[1].Delta {
		t.Errorf("behind it: %d messages", len(heads))
	}
	// What is new has room in a body of its own.
	heads, _ = written(t, w, some(3000, 1000))
	if len(heads) != 2 || !heads[0].Delta || heads[0].ID != 1 || heads[0].Rows != 1000 {
		t.Errorf("what is new: %d messages", len(heads))
	}
	w = newWriter(t, s, api.Option{})
	w.Write(some(0, 3000))
	w.Take()
	if e := w.Write(some(3000, 1000)); !isWrong(e, 4, api.ErrBytes) || len(w.Take()) != 0 {
		t.Errorf("all of it anew: %v", e)
	}
	if heads, _ = written(t, w, some(0, 3000)); len(heads) != 1 {
		t.Errorf("what is known still: %d messages", len(heads))
	}
}

// P12.2, 3 ahead of 4: that a later column has no build form is told ahead of a dictionary's body.
func TestFormsFirst(t *testing.T) {
	s := schema(t, "d dict(1, uint16, w struct(n int16, "+wide("x", 31)+", "+wide("y", 31)+", "+wide("z", 31)+", "+wide("u", 31)+", "+wide("v", 31)+")), c choice(l list(i int8))")
	b := api.Batch{Rows: api.MaxRows}
	var values []api.Value
	for i := range api.MaxRows {
		null := api.Value{Null: true}
		values = append(values, api.Value{List: []api.Value{{Num: int64(i)}, null, null, null, null, null}})
	}
	d, e, at := build.Of(s.Fields[0], values)
	if e != api.OK {
		t.Fatalf("%d at %d", e, at)
	}
	c := choices(2)
	c.Length, c.Buffers = api.MaxRows, [][]byte{make([]byte, api.MaxRows), make([]byte, 4*api.MaxRows)}
	b.Columns = []api.Data{d, c}
	if e := newWriter(t, s, api.Option{}).Write(b); !isWrong(e, 1, api.ErrRows) {
		t.Errorf("no build form: %v", e)
	}
	b.Columns[1].Children[0] = choices(1).Children[0]
	if e := newWriter(t, s, api.Option{}).Write(b); !isWrong(e, 1, api.ErrBytes) {
		t.Errorf("a dictionary that is too long: %v", e)
	}
}

// P12.2: where the indices have no numbers left the dictionary begins anew, with Delta too.
func TestNumbersRunOut(t *testing.T) {
	s := schema(t, "d dict(0, int8, w int64)")
	words := func(from, n int) api.Batch {
		var l []string
		for i := range n {
			l = append(l, strconv.Itoa(from+i))
		}
		return column(t, s, l...)
	}
	var told []api.Batch
	w := newWriter(t, s, api.Option{Delta: true})
	all := w.Take()
	for _, x := range []struct{ from, n, messages, rows int }{{0, 100, 2, 100}, {100, 28, 2, 28}, {0, 128, 1, 128}, {127, 2, 2, 2}, {127, 2, 1, 2}, {0, 128, 2, 128}} {
		b := words(x.from, x.n)
		heads, bodies := written(t, w, b)
		if len(heads) != x.messages || heads[0].Rows != x.rows || x.messages == 2 && heads[0].Delta != (x.from == 100) {
			t.Errorf("%+v: %+v", x, heads)
		}
		for k, h := range heads {
			all = append(all, modelMessage(h, bodies[k])...)
		}
		told = append(told, b)
	}
	r := newReader(t, all, frame.Close())
	for i, want := range told {
		b, e := r.Next()
		if e != nil || !sameForms(s, b, want) {
			t.Errorf("batch %d: %v", i, e)
		}
	}
	if _, e := r.Next(); e != ErrEnd {
		t.Errorf("the end: %v", e)
	}
}

// sameForms tells whether two batches denote the same rows.
func sameForms(s api.Schema, a, b api.Batch) bool {
	if a.Rows != b.Rows || len(a.Columns) != len(s.Fields) || len(b.Columns) != len(s.Fields) {
		return false
	}
	for k, f := range s.Fields {
		x, e := build.Form(f, a.Columns[k])
		y, u := build.Form(f, b.Columns[k])
		if e != api.OK || u != api.OK || !sameData(x, y) {
			return false
		}
	}
	return true
}

// P12.2: each Dict field's dictionary is told with each batch, ahead of it: of fields within fields in their order, whatever their numbers; also where no row names a value.
func TestOrderOfDictionaries(t *testing.T) {
	s := schema(t, "a struct(b list(c dict(9, int8, w text)?), d choice(e dict(2, int8, w text), f dict(5, int8, w text))), g runs(h dict(31, int8, w text)?)?, i span(2, j dict(0, int8, w text))")
	w := newWriter(t, s, api.Option{})
	w.Take()
	none, e, _ := build.Batch(s, nil)
	if e != api.OK {
		t.Fatal(e)
	}
	heads, _ := written(t, w, none)
	var ids, rows []int
	for _, h := range heads[:len(heads)-1] {
		ids, rows = append(ids, h.ID), append(rows, h.Rows)
	}
	if !slices.Equal(ids, []int{9, 2, 5, 31, 0}) || !slices.Equal(rows, make([]int, 5)) || heads[5].Kind != api.HeadBatch {
		t.Errorf("no rows: %v of %v", rows, ids)
	}
	if heads, _ = written(t, w, none); len(heads) != 1 {
		t.Errorf("no rows again: %d messages", len(heads))
	}
	s = schema(t, "d dict(0, int8, w text)?")
	w = newWriter(t, s, api.Option{Delta: true})
	w.Take()
	if heads, bodies := written(t, w, column(t, s, "null")); len(heads) != 2 || heads[0].Rows != 0 || heads[0].Delta || !bytes.Equal(bodies[1], make([]byte, 16)) {
		t.Errorf("a null alone: %+v, % x", heads, bodies)
	}
	if heads, _ := written(t, w, column(t, s, `"x"`)); len(heads) != 2 || heads[0].Rows != 1 || !heads[0].Delta {
		t.Errorf("a value behind it: %+v", heads)
	}
}

// P12.3: Take tells what was written since the last one, also behind Close; the end comes once.
func TestTake(t *testing.T) {
	s := schema(t, "a int8")
	w := newWriter(t, s, api.Option{})
	w.Write(column(t, s, "1"))
	w.Close()
	w.Close()
	one := w.Take()
	if l := messagesOf(one); len(l) != 3 || !bytes.Equal(l[2], frame.Close()) {
		t.Errorf("all at once: % x", one)
	}
	if len(w.Take()) != 0 {
		t.Error("it is told again")
	}
	w = newWriter(t, s, api.Option{})
	first := w.Take()
	got := slices.Concat(first, w.Take())
	w.Write(column(t, s, "1"))
	got = append(got, w.Take()...)
	if !bytes.Equal(first, schemaMessage(s)) {
		t.Errorf("what was told first has changed: % x", first)
	}
	w.Close()
	if got = append(got, w.Take()...); !bytes.Equal(got, one) {
		t.Errorf("bit by bit: % x", got)
	}
}

// Wrong tells a number that errors.Is finds, by a text that is not empty; the three errors of the package are told by themselves.
func TestErrors(t *testing.T) {
	for _, w := range []*Wrong{{}, {Message: 3, Why: api.ErrSum}, {Message: -1, Why: -5}} {
		var e error = w
		if e.Error() == "" || errors.Unwrap(e) != error(w.Why) || !errors.Is(e, w.Why) || errors.Is(e, api.ErrCut) || errors.Is(e, ErrMore) {
			t.Errorf("%+v: %v", *w, e)
		}
	}
	l := []error{ErrMore, ErrEnd, ErrClosed}
	for i, a := range l {
		for k, b := range l {
			if errors.Is(a, b) != (i == k) || errors.Unwrap(a) != nil {
				t.Errorf("%v and %v", a, b)
			}
		}
	}
}
