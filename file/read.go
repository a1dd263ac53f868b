package file

import (
	"bytes"
	"iter"

	"colonnade/api"
	"colonnade/batch"
	"colonnade/dict"
	"colonnade/frame"
	"colonnade/kind"
	"colonnade/meta"
)

// message is what an entry's message says.
type message struct {
	head  api.Head
	body  []byte // lies in the file
	bytes []byte // all of the message's, in memory of their own
}

// lies tells the bytes of an entry's message where they lie.
func (f *File) lies(k int) []byte {
	e := f.entries[k]
	return f.bytes[e.at:e.end()]
}

// read reads an entry.
func (f *File) read(k int) (message, api.Errno) {
	e := f.entries[k]
	from, at := e.at+headSize, e.bodyAt()
	m := api.Message{Meta: f.bytes[from : from+e.meta], Body: f.bytes[at : at+e.body]}
	put, _ := frame.Put(m)
	if !bytes.Equal(put, f.lies(k)) {
		return message{}, api.ErrBlock
	}
	h, x := meta.Get(m.Meta)
	if x.Err != api.OK {
		return message{}, x.Err
	}
	if h.Kind != e.kind || h.Kind == api.HeadSchema && e.body > 0 {
		return message{}, api.ErrForm
	}
	return message{head: h, body: m.Body, bytes: put}, api.OK
}

// learning tells a function that tells the book of what the dictionaries ahead of an entry tell, or the fault of the first one that is wrong. Asked for entries one behind the other it keeps its place among them, so that none is read twice; but where somebody has written into what it has read it begins anew.
func (f *File) learning() func(entry int) (*dict.Book, api.Fault) {
	fields := dictFields(f.schema)
	var book *dict.Book
	var known [][]byte // of each entry that was read the message's bytes; of those that are no dictionary's nil
	return func(entry int) (*dict.Book, api.Fault) {
		if book == nil || f.changed(known) {
			book, _ = dict.Open(f.schema)
			known = nil
		}
		for k := len(known); k < entry; k++ {
			b, e := f.learn(book, fields, k)
			if e != api.OK {
				return nil, api.Fault{Err: e, At: k}
			}
			known = append(known, b)
		}
		return book, api.Fault{}
	}
}

// changed tells whether one of some messages, of the first entries, lies there otherwise than it was; nil ones are not looked at.
func (f *File) changed(messages [][]byte) bool {
	for k, b := range messages {
		if b != nil && !bytes.Equal(b, f.lies(k)) {
			return true
		}
	}
	return false
}

// learn makes the book know what an entry tells, if it is a dictionary's, and tells its message's bytes then.
func (f *File) learn(book *dict.Book, fields map[int]api.Field, k int) ([]byte, api.Errno) {
	if f.entries[k].kind != api.HeadDict {
		return nil, api.OK
	}
	m, e := f.read(k)
	if e != api.OK {
		return nil, e
	}
	field, ok := fields[m.head.ID]
	if !ok {
		return nil, api.ErrID
	}
	d, x := batch.JoinDict(field, m.head, m.body)
	if x.Err != api.OK {
		return nil, x.Err
	}
	if m.head.Delta {
		return m.bytes, book.Grow(m.head.ID, d)
	}
	return m.bytes, book.Replace(m.head.ID, d)
}

// dictFields tells the Dict fields of a schema by their numbers.
func dictFields(s api.Schema) map[int]api.Field {
	fields := map[int]api.Field{}
	for _, f := range kind.Walk(s) {
		if f.Type.Kind == api.Dict {
			fields[f.Type.ID] = f
		}
	}
	return fields
}

// Batch tells a batch.
func (f *File) Batch(i int) (api.Batch, api.Fault) { return f.Some(i, f.columns()) }

// columns tells the numbers of all columns.
func (f *File) columns() []int {
	l := make([]int, len(f.schema.Fields))
	for k := range l {
		l[k] = k
	}
	return l
}

// Some tells some columns of a batch.
func (f *File) Some(i int, columns []int) (api.Batch, api.Fault) {
	if i < 0 || i >= len(f.batches) {
		return api.Batch{}, api.Fault{Err: api.ErrRange, At: i}
	}
	return f.some(f.batches[i], columns, f.learning())
}

// some tells some columns of the batch of an entry.
func (f *File) some(k int, columns []int, learn func(int) (*dict.Book, api.Fault)) (api.Batch, api.Fault) {
	book, x := learn(k)
	if x.Err != api.OK {
		return api.Batch{}, x
	}
	m, e := f.read(k)
	if e == api.OK && m.head.Rows != f.entries[k].rows {
		e = api.ErrUnlike
	}
	if e != api.OK {
		return api.Batch{}, api.Fault{Err: e, At: k}
	}
	return batch.Some(f.schema, m.head, m.body, book.Told(), columns)
}

// tries gives what Batch tells of each batch, in their order.
func (f *File) tries() iter.Seq2[api.Batch, api.Fault] {
	return func(yield func(api.Batch, api.Fault) bool) {
		learn := f.learning()
		for _, k := range f.batches {
			if !yield(f.some(k, f.columns(), learn)) {
				return
			}
		}
	}
}

// All gives the batches, in their order, up to the first that is wrong.
func (f *File) All() iter.Seq2[int, api.Batch] {
	return func(yield func(int, api.Batch) bool) {
		i := 0
		for b, x := range f.tries() {
			if x.Err != api.OK || !yield(i, b) {
				return
			}
			i++
		}
	}
}

// Check looks all batches over.
func (f *File) Check() api.Fault {
	i := 0
	for _, x := range f.tries() {
		if x.Err != api.OK {
			x.Path = append([]int{i}, x.Path...)
			return x
		}
		i++
	}
	return api.Fault{}
}
