package stream

import (
	"colonnade/api"
	"colonnade/batch"
	"colonnade/build"
	"colonnade/dict"
	"colonnade/frame"
	"colonnade/meta"
)

// Writer writes a stream.
type Writer struct {
	schema   api.Schema
	option   api.Option
	book     *dict.Book // what whoever reads all that was written knows
	messages int        // how many were written
	batches  int        // and how many of these are batches
	bytes    []byte     // what was written since the last Take
	closed   bool
}

// NewWriter begins a stream of batches of a schema.
func NewWriter(s api.Schema, o api.Option) (*Writer, error) {
	book, e := dict.Open(s)
	if e != api.OK {
		return nil, e
	}
	switch o.Press {
	case api.PressNone, api.PressRuns, api.PressBack:
	default:
		return nil, api.ErrArg
	}
	w := &Writer{schema: copied(s), option: o, book: book}
	w.put(framed(api.Head{Kind: api.HeadSchema, Schema: s}, nil))
	return w, nil
}

// Write writes a batch.
func (w *Writer) Write(b api.Batch) error {
	if w.closed {
		return ErrClosed
	}
	d, e := w.drafted(b)
	if e != api.OK {
		return &Wrong{Message: w.messages, Why: e}
	}
	w.book = d.book
	w.batches++
	w.put(d.messages...)
	return nil
}

// Close ends the stream.
func (w *Writer) Close() error {
	if w.closed {
		return ErrClosed
	}
	w.closed = true
	w.bytes = append(w.bytes, frame.Close()...)
	return nil
}

// Take tells the bytes that were written since the last Take.
func (w *Writer) Take() []byte {
	b := w.bytes
	w.bytes = nil
	return b
}

// put writes messages.
func (w *Writer) put(messages ...[]byte) {
	for _, m := range messages {
		w.bytes = append(w.bytes, m...)
		w.messages++
	}
}

// framed is the bytes of a message. Neither meta nor frame refuses one that batch has split, or that is of a schema that may be: their limits are wider.
func framed(h api.Head, body []byte) []byte {
	m, _ := meta.Put(h)
	b, _ := frame.Put(api.Message{Meta: m, Body: body})
	return b
}

// drafted tells what is written for a batch, or what refuses it.
func (w *Writer) drafted(b api.Batch) (*draft, api.Errno) {
	if w.batches == api.MaxBatches {
		return nil, api.ErrRange
	}
	if x := batch.Check(w.schema, b); x.Err != api.OK {
		return nil, x.Err
	}
	columns, e := forms(w.schema, b.Columns)
	if e != api.OK {
		return nil, e
	}
	d := &draft{option: w.option, book: w.book.Copy()}
	for k, f := range w.schema.Fields {
		if e := d.tellWithin(f, &columns[k]); e != api.OK {
			return nil, e
		}
	}
	h, body, e := batch.Split(w.schema, api.Batch{Rows: b.Rows, Columns: columns}, w.option.Press)
	if e != api.OK {
		return nil, e
	}
	d.add(h, body)
	return d, api.OK
}

// forms tells the build forms of columns.
func forms(s api.Schema, columns []api.Data) ([]api.Data, api.Errno) {
	l := make([]api.Data, len(columns))
	for k, f := range s.Fields {
		d, e := build.Form(f, columns[k])
		if e != api.OK {
			return nil, e
		}
		l[k] = d
	}
	return l, api.OK
}
