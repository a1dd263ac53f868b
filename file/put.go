package file

import (
	"errors"

	"colonnade/api"
	"colonnade/meta"
	"colonnade/stream"
)

// Put tells the file of a table.
func Put(t api.Table, o api.Option, extra []byte) ([]byte, api.Errno) {
	w, err := stream.NewWriter(t.Schema, o)
	if err != nil {
		return nil, numberOf(err)
	}
	if len(extra) > api.MaxMeta {
		return nil, api.ErrBytes
	}
	d := draft{bytes: []byte(mark)}
	d.add(w.Take())
	for _, b := range t.Batches {
		if err := w.Write(b); err != nil {
			return nil, numberOf(err)
		}
		d.add(w.Take())
	}
	w.Close()
	return d.ended(w.Take(), extra)
}

// numberOf tells the number that an error of a stream's is, or wraps.
func numberOf(err error) api.Errno {
	var e api.Errno
	errors.As(err, &e)
	return e
}

// draft is a file as far as its messages are written.
type draft struct {
	bytes   []byte
	entries []entry
	full    bool // it has got too long
}

// add lays messages behind the others. Of a file that has got too long nothing is kept any more: whether it is refused for that, or for a later batch, is not known yet.
func (d *draft) add(messages []byte) {
	if d.full = d.full || len(d.bytes)+len(messages) > api.MaxFile; d.full {
		d.bytes, d.entries = nil, nil
		return
	}
	for len(messages) > 0 {
		e := entryOf(messages, len(d.bytes))
		size := e.end() - e.at
		d.entries = append(d.entries, e)
		d.bytes = append(d.bytes, messages[:size]...)
		messages = messages[size:]
	}
}

// entryOf tells the entry of the first one of messages, which is to lie at a place.
func entryOf(messages []byte, at int) entry {
	next := numbers(messages[numberSize:]) // behind the message's mark
	e := entry{at: at, meta: next(), body: next()}
	h, _ := meta.Get(messages[headSize : headSize+e.meta])
	e.kind = h.Kind
	if h.Kind == api.HeadBatch {
		e.rows = h.Rows
	}
	return e
}

// ended tells the file, with the stream's end, the foot and the tail.
func (d *draft) ended(end, extra []byte) ([]byte, api.Errno) {
	rest := append(end, footOf(d.entries, extra)...)
	if d.full || len(d.bytes)+len(rest) > api.MaxFile {
		return nil, api.ErrBytes
	}
	return append(d.bytes, rest...), api.OK
}
