package stream

import (
	"bytes"
	"errors"
	"slices"
	"testing"

	"colonnade/api"
	"colonnade/batch"
	"colonnade/build"
	"colonnade/frame"
	"colonnade/kind"
	"colonnade/meta"
	"colonnade/value"
)

// schema reads a schema.
func schema(t testing.TB, text string) api.Schema {
	t.Helper()
	s, e, at := kind.Parse(text)
	if e != api.OK {
		t.Fatalf("%s: %d at %d", text, e, at)
	}
	return s
}

// column is a batch of one column, in build form, of values as they are written.
func column(t testing.TB, s api.Schema, texts ...string) api.Batch {
	t.Helper()
	var rows [][]api.Value
	for _, text := range texts {
		v, e, at := value.Parse(s.Fields[0], text)
		if e != api.OK {
			t.Fatalf("%s: %d at %d", text, e, at)
		}
		rows = append(rows, []api.Value{v})
	}
	b, e, at := build.Batch(s, rows)
	if e != api.OK {
		t.Fatalf("%v: %d at %d", texts, e, at)
	}
	return b
}

// isWrong tells whether an error is a *Wrong that says so, and is found by errors.Is.
func isWrong(e error, message int, why api.Errno) bool {
	var w *Wrong
	return errors.As(e, &w) && w.Message == message && w.Why == why && errors.Is(e, why) && errors.Unwrap(e) == error(why) && e.Error() != ""
}

// written writes a batch, and tells the heads and bodies of the messages that were written.
func written(t *testing.T, w *Writer, b api.Batch) ([]api.Head, [][]byte) {
	t.Helper()
	if e := w.Write(b); e != nil {
		t.Fatalf("Write: %v", e)
	}
	var heads []api.Head
	var bodies [][]byte
	f, _ := frame.NewReader(widest)
	f.Feed(w.Take())
	for {
		m, how, _ := f.Next()
		if how != frame.One {
			return heads, bodies
		}
		h, x := meta.Get(m.Meta)
		if x.Err != api.OK {
			t.Fatalf("meta.Get: %+v", x)
		}
		heads, bodies = append(heads, h), append(bodies, m.Body)
	}
}

// wordsOf tells the texts of a dictionary message.
func wordsOf(t *testing.T, s api.Schema, h api.Head, body []byte) []string {
	t.Helper()
	d, x := batch.JoinDict(s.Fields[0], h, body)
	if x.Err != api.OK {
		t.Fatalf("JoinDict: %+v", x)
	}
	var l []string
	for _, v := range denoted(s.Fields[0].Type.Fields[0], d) {
		l = append(l, v.Text)
	}
	return l
}

// The chapter's examples of a writer of numbers.
func TestExampleWriter(t *testing.T) {
	s := schema(t, "a int8")
	if w, e := NewWriter(s, api.Option{Press: 3}); w != nil || e != error(api.ErrArg) {
		t.Errorf("Press 3: %v, %v", w, e)
	}
	w := newWriter(t, s, api.Option{})
	first := w.Take()
	want := []byte{1, 1, 0, 0, 1, 0, 1, 'a', 0, 3, 0, 0, 0, 0, 0, 0}
	if len(first) != 40 || string(first[:4]) != "COL1" || first[4] != 12 || !bytes.Equal(first[24:], want) {
		t.Errorf("the schema's message: % x", first)
	}
	heads, bodies := written(t, w, column(t, s, "1", "2"))
	if len(heads) != 1 || heads[0].Kind != api.HeadBatch || heads[0].Rows != 2 || !bytes.Equal(bodies[0], []byte{1, 2, 0, 0, 0, 0, 0, 0}) {
		t.Errorf("Write: %+v, % x", heads, bodies)
	}
	if e := w.Write(api.Batch{Columns: make([]api.Data, 2)}); !isWrong(e, 2, api.ErrColumns) {
		t.Errorf("two columns: %v", e)
	}
	if e := w.Close(); e != nil {
		t.Errorf("Close: %v", e)
	}
	if e := w.Close(); e != ErrClosed {
		t.Errorf("Close again: %v", e)
	}
	if e := w.Write(column(t, s, "1")); e != ErrClosed {
		t.Errorf("Write behind Close: %v", e)
	}
	if b := w.Take(); !bytes.Equal(b, frame.Close()) {
		t.Errorf("the end: % x", b)
	}
	if b := w.Take(); len(b) != 0 {
		t.Errorf("Take again: % x", b)
	}
}

// The chapter's examples of dictionaries, and DOC.md's third one.
func TestExampleDictionaries(t *testing.T) {
	s := schema(t, "d dict(0, uint8, w text)")
	for _, delta := range []bool{true, false} {
		w := newWriter(t, s, api.Option{Delta: delta})
		w.Take()
		heads, bodies := written(t, w, column(t, s, `"x"`, `"y"`))
		if len(heads) != 2 || heads[0].Kind != api.HeadDict || heads[0].Delta || !slices.Equal(wordsOf(t, s, heads[0], bodies[0]), []string{"x", "y"}) || heads[1].Kind != api.HeadBatch || bodies[1][1] != 1 {
			t.Errorf("the first batch: %+v, % x", heads, bodies)
		}
		heads, bodies = written(t, w, column(t, s, `"y"`))
		if len(heads) != 1 || heads[0].Kind != api.HeadBatch || heads[0].Rows != 1 || bodies[0][0] != 1 {
			t.Errorf("the second batch: %+v, % x", heads, bodies)
		}
		heads, bodies = written(t, w, column(t, s, `"y"`, `"z"`))
		words := []string{"x", "y", "z"}
		if delta {
			words = []string{"z"}
		}
		if len(heads) != 2 || heads[0].Kind != api.HeadDict || heads[0].Delta != delta || !slices.Equal(wordsOf(t, s, heads[0], bodies[0]), words) || heads[1].Kind != api.HeadBatch || !bytes.Equal(bodies[1][:2], []byte{1, 2}) {
			t.Errorf("the third batch: %+v, % x", heads, bodies)
		}
	}
	s = schema(t, "d dict(0, uint8, w text)?")
	w := newWriter(t, s, api.Option{Delta: true})
	w.Take()
	heads, bodies := written(t, w, column(t, s, `"b"`, "null", `"a"`, `"b"`))
	if len(heads) != 2 || !slices.Equal(wordsOf(t, s, heads[0], bodies[0]), []string{"b", "a"}) || !bytes.Equal(bodies[1], []byte{13, 0, 0, 0, 0, 0, 0, 0, 0, 0, 1, 0, 0, 0, 0, 0}) {
		t.Errorf("with a null: %+v, % x", heads, bodies)
	}
}

// The chapter's examples of a reader.
func TestExampleReader(t *testing.T) {
	s := schema(t, "a int8")
	numbers := column(t, s, "1", "2")
	all := wrote(t, s, api.Option{}, numbers)
	r := newReader(t)
	if b, e := r.Next(); e != ErrMore || !sameBatch(b, api.Batch{}) {
		t.Errorf("Next of nothing: %v", e)
	}
	if x, e := r.Schema(); e != ErrMore || x.Fields != nil || x.Notes != nil {
		t.Errorf("Schema of nothing: %v", e)
	}
	r.Feed(all)
	if x, e := r.Schema(); e != nil || printed(x) != "a int8" {
		t.Errorf("Schema: %v, %v", x, e)
	}
	if b, e := r.Next(); e != nil || !sameBatch(b, numbers) {
		t.Errorf("Next: %v, %v", b, e)
	}
	if _, e := r.Next(); e != ErrEnd {
		t.Errorf("the end: %v", e)
	}
	r = newReader(t, frame.Close())
	_, e := r.Next()
	if !isWrong(e, 0, api.ErrForm) {
		t.Errorf("the end alone: %v", e)
	}
	if _, again := r.Schema(); again != e {
		t.Errorf("the end alone: Schema: %v", again)
	}
	if _, e := newReader(t, []byte{0}).Next(); !isWrong(e, 0, api.ErrMark) {
		t.Errorf("a byte 0: %v", e)
	}
	r = newReader(t, all[:40])
	if e := r.Shut(); e != nil {
		t.Errorf("Shut: %v", e)
	}
	if x, e := r.Schema(); e != nil || printed(x) != "a int8" {
		t.Errorf("Schema of a stream that is cut: %v, %v", x, e)
	}
	if _, e := r.Next(); !isWrong(e, 1, api.ErrCut) {
		t.Errorf("a stream that is cut: %v", e)
	}
	d := schema(t, "d dict(0, uint8, w text)")
	messages := messagesOf(wrote(t, d, api.Option{}, column(t, d, `"x"`)))
	if _, e := newReader(t, messages[0], messages[2]).Next(); !isWrong(e, 1, api.ErrUnknown) {
		t.Errorf("no dictionary: %v", e)
	}
}

// DOC.md's fourth example: byte by byte a reader tells ErrMore till the last byte of the batch's message; with one byte turned the schema and one error.
func TestExampleBytes(t *testing.T) {
	s := schema(t, "d dict(0, uint8, w text)?")
	first, second := column(t, s, `"b"`, "null", `"a"`, `"b"`), column(t, s, `"c"`)
	all := wrote(t, s, api.Option{Delta: true}, first, second)
	messages := messagesOf(all)
	whole := len(messages[0]) + len(messages[1]) + len(messages[2])
	r := newReader(t)
	for i, c := range all[:whole] {
		if _, e := r.Next(); e != ErrMore {
			t.Fatalf("ahead of byte %d: %v", i, e)
		}
		r.Feed([]byte{c})
	}
	if b, e := r.Next(); e != nil || !sameBatch(b, first) {
		t.Errorf("the first batch: %v, %v", b, e)
	}
	r.Feed(all[whole:])
	if b, e := r.Next(); e != nil || b.Rows != 1 || b.Columns[0].Buffers[1][0] != 2 || b.Columns[0].Dict[0].Length != 3 {
		t.Errorf("the second batch: %v, %v", b, e)
	}
	all[whole-1] ^= 1
	r = newReader(t, all)
	_, e := r.Next()
	if !isWrong(e, 2, api.ErrSum) {
		t.Errorf("a byte is turned: %v", e)
	}
	if x, e := r.Schema(); e != nil || printed(x) != printed(s) {
		t.Errorf("a byte is turned: Schema: %v, %v", x, e)
	}
	if _, again := r.Next(); again != e {
		t.Errorf("another error: %v", again)
	}
}
