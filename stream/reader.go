package stream

import (
	"errors"

	"colonnade/api"
	"colonnade/batch"
	"colonnade/dict"
	"colonnade/frame"
	"colonnade/kind"
	"colonnade/meta"
)

// Reader reads a stream that comes in pieces.
type Reader struct {
	frames   *frame.Reader
	schema   api.Schema // once the message 0 was taken
	book     *dict.Book // likewise
	messages int        // how many were taken
	batches  int        // and how many of these are batches
	wrong    error      // what is wrong, told for ever; nil: nothing
	shut     bool
}

// NewReader makes one that takes messages up to some limits.
func NewReader(l api.Limits) (*Reader, error) {
	f, e := frame.NewReader(l)
	if e != api.OK {
		return nil, e
	}
	return &Reader{frames: f}, nil
}

// Feed hands a piece of the stream in.
func (r *Reader) Feed(b []byte) error {
	if r.shut {
		return ErrClosed
	}
	if r.wrong == nil {
		r.frames.Feed(b)
	}
	return nil
}

// Shut says that no piece comes any more.
func (r *Reader) Shut() error {
	if r.shut {
		return ErrClosed
	}
	r.shut = true
	if r.wrong == nil {
		r.frames.Shut()
	}
	return nil
}

// Schema tells the stream's schema.
func (r *Reader) Schema() (api.Schema, error) {
	if r.messages == 0 {
		if _, e := r.take(); e != nil {
			return api.Schema{}, e
		}
	}
	return copied(r.schema), nil
}

// Next tells the next batch.
func (r *Reader) Next() (api.Batch, error) {
	for {
		b, e := r.take()
		if e != nil {
			return api.Batch{}, e
		}
		if b != nil {
			return *b, nil
		}
	}
}

// take takes the next message, and tells the batch, if it is one.
func (r *Reader) take() (*api.Batch, error) {
	if r.wrong != nil {
		return nil, r.wrong
	}
	m, e := r.message()
	if e != nil {
		return nil, r.kept(e)
	}
	b, e := r.done(m)
	if e != nil {
		return nil, r.kept(e)
	}
	r.messages++
	return b, nil
}

// kept keeps what is wrong, and lets all go that no message wants any more. That there is no message is not kept: bytes may follow, also behind the end.
func (r *Reader) kept(e error) error {
	if errors.Is(e, ErrMore) || errors.Is(e, ErrEnd) {
		return e
	}
	r.wrong, r.frames, r.book = e, nil, nil
	return e
}

// met is what is wrong with the next message.
func (r *Reader) met(e api.Errno) error { return &Wrong{Message: r.messages, Why: e} }

// message tells the next message, or why there is none.
func (r *Reader) message() (api.Message, error) {
	m, how, e := r.frames.Next()
	switch {
	case how == frame.One:
		return m, nil
	case how == frame.More:
		return api.Message{}, ErrMore
	case r.messages == 0 && (how == frame.End || errors.Is(e, api.ErrTail)):
		// A stream has a schema. What stands behind its end makes no difference any more.
		return api.Message{}, r.met(api.ErrForm)
	case how == frame.End:
		return api.Message{}, ErrEnd
	}
	return api.Message{}, r.met(e)
}

// done does what a message asks for, and tells the batch, if it is one.
func (r *Reader) done(m api.Message) (*api.Batch, error) {
	h, x := meta.Get(m.Meta)
	if x.Err != api.OK {
		return nil, r.met(x.Err)
	}
	if first := r.messages == 0; first != (h.Kind == api.HeadSchema) || first && len(m.Body) > 0 {
		return nil, r.met(api.ErrForm)
	}
	takes := map[int]func(api.Head, []byte) (*api.Batch, api.Errno){
		api.HeadSchema: r.takeSchema,
		api.HeadDict:   r.takeDict,
		api.HeadBatch:  r.takeBatch,
	}
	b, e := takes[h.Kind](h, m.Body)
	if e != api.OK {
		return nil, r.met(e)
	}
	return b, nil
}

func (r *Reader) takeSchema(h api.Head, _ []byte) (*api.Batch, api.Errno) {
	var e api.Errno
	r.schema = h.Schema
	r.book, e = dict.Open(h.Schema)
	return nil, e
}

func (r *Reader) takeDict(h api.Head, body []byte) (*api.Batch, api.Errno) {
	f, e := dictField(r.schema, h.ID)
	if e != api.OK {
		return nil, e
	}
	d, x := batch.JoinDict(f, h, body)
	if x.Err != api.OK {
		return nil, x.Err
	}
	if h.Delta {
		return nil, r.book.Grow(h.ID, d)
	}
	return nil, r.book.Replace(h.ID, d)
}

func (r *Reader) takeBatch(h api.Head, body []byte) (*api.Batch, api.Errno) {
	if r.batches == api.MaxBatches {
		return nil, api.ErrRange
	}
	// The body and the book's dictionaries are new memory, so it does no harm that the batch lies in them.
	b, x := batch.Join(r.schema, h, body, r.book.Told())
	if x.Err != api.OK {
		return nil, x.Err
	}
	r.batches++
	return &b, api.OK
}

// dictField tells the Dict field of a number.
func dictField(s api.Schema, id int) (api.Field, api.Errno) {
	for _, f := range kind.Walk(s) {
		if f.Type.Kind == api.Dict && f.Type.ID == id {
			return f, api.OK
		}
	}
	return api.Field{}, api.ErrID
}
