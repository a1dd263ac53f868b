package stream

import (
	"encoding/binary"
	"errors"
	"slices"
	"testing"

	"colonnade/api"
	"colonnade/array"
	"colonnade/batch"
	"colonnade/build"
	"colonnade/frame"
	"colonnade/kind"
	"colonnade/meta"
	"colonnade/value"
)

// sameData tells whether two arrays lie alike.
func sameData(a, b api.Data) bool {
	return a.Length == b.Length && a.Offset == b.Offset && a.Nulls == b.Nulls &&
		slices.EqualFunc(a.Buffers, b.Buffers, slices.Equal[[]byte]) &&
		slices.EqualFunc(a.Children, b.Children, sameData) && slices.EqualFunc(a.Dict, b.Dict, sameData)
}

func sameBatch(a, b api.Batch) bool {
	return a.Rows == b.Rows && slices.EqualFunc(a.Columns, b.Columns, sameData)
}

// printed is a schema's text, notes too: that of one is no other's.
func printed(s api.Schema) string {
	text, e := kind.Print(s)
	if e != api.OK {
		return "no schema"
	}
	return text
}

// sameError tells whether two errors say the same: one of the package itself, or what is wrong and at which message.
func sameError(a, b error) bool {
	var x, y *Wrong
	if errors.As(a, &x) && errors.As(b, &y) {
		return *x == *y
	}
	return a == b
}

// denoted tells the values of an array.
func denoted(f api.Field, d api.Data) []api.Value {
	a, x := array.Open(f, d)
	if x.Err != api.OK {
		panic(x.Err)
	}
	return a.Values()
}

// placeOf tells the least number of a value in a list; -1: it is not there.
func placeOf(l []api.Value, v api.Value) int {
	return slices.IndexFunc(l, func(x api.Value) bool { return value.Same(x, v) })
}

// modelWriter is a writer by the chapter's words: it keeps the messages, one by one, and the dictionaries as values.
type modelWriter struct {
	s        api.Schema
	o        api.Option
	known    map[int][]api.Value
	messages [][]byte
	batches  int
}

// modelMessage is the bytes of a message.
func modelMessage(h api.Head, body []byte) []byte {
	m, e := meta.Put(h)
	if e != api.OK {
		panic(e)
	}
	b, e := frame.Put(api.Message{Meta: m, Body: body})
	if e != api.OK {
		panic(e)
	}
	return b
}

func newModelWriter(s api.Schema, o api.Option) *modelWriter {
	first := modelMessage(api.Head{Kind: api.HeadSchema, Schema: s}, nil)
	return &modelWriter{s: s, o: o, known: map[int][]api.Value{}, messages: [][]byte{first}}
}

// modelAt tells the array to which the way of a field leads.
func modelAt(s api.Schema, columns []api.Data, way []int) *api.Data {
	f, d := s.Fields[way[0]], &columns[way[0]]
	for _, k := range way[1:] {
		part := k
		if f.Type.Kind == api.Runs {
			part = 1
		}
		f, d = f.Type.Fields[k], &d.Children[part]
	}
	return d
}

// modelCan tells whether values can be the dictionary of a Dict field.
func modelCan(f api.Field, l []api.Value) bool {
	n, ok := map[int]int{api.Int8: 128, api.Uint8: 256}[f.Type.Index]
	if ok && len(l) > n {
		return false
	}
	_, e, _ := build.Of(f.Type.Fields[0], l)
	return e == api.OK
}

// modelTell tells the dictionary behind a Tell, what is told of it, and whether that is told with Delta; told is nil, if nothing is.
func modelTell(f api.Field, known []api.Value, isKnown bool, l []api.Value, delta bool) (now, told []api.Value, grows bool) {
	var fresh []api.Value
	for _, v := range l {
		if placeOf(known, v) < 0 {
			fresh = append(fresh, v)
		}
	}
	if isKnown && len(fresh) == 0 {
		return known, nil, false
	}
	if whole := slices.Concat(known, fresh); modelCan(f, whole) {
		if isKnown && delta {
			return whole, fresh, true
		}
		return whole, append([]api.Value{}, whole...), false
	}
	return l, l, false
}

// write is Write of a batch; what it answers is the error's number.
func (m *modelWriter) write(b api.Batch) api.Errno {
	if m.batches == 256 {
		return api.ErrRange
	}
	if x := batch.Check(m.s, b); x.Err != api.OK {
		return x.Err
	}
	var columns []api.Data
	for k, f := range m.s.Fields {
		d, e := build.Form(f, b.Columns[k])
		if e != api.OK {
			return e
		}
		columns = append(columns, d)
	}
	messages := slices.Clone(m.messages)
	learnt := map[int][]api.Value{}
	for way, f := range kind.Walk(m.s) {
		if f.Type.Kind != api.Dict {
			continue
		}
		d, child := modelAt(m.s, columns, way), f.Type.Fields[0]
		known, isKnown := m.known[f.Type.ID]
		now, told, grows := modelTell(f, known, isKnown, denoted(child, d.Dict[0]), m.o.Delta)
		if told != nil {
			a, _, _ := build.Of(child, told)
			h, body, e := batch.SplitDict(f, a, grows, m.o.Press)
			if e != api.OK {
				return e
			}
			messages = append(messages, modelMessage(h, body))
		}
		learnt[f.Type.ID] = now
		modelRename(f, d, now)
	}
	h, body, e := batch.Split(m.s, api.Batch{Rows: b.Rows, Columns: columns}, m.o.Press)
	if e != api.OK {
		return e
	}
	m.messages = append(messages, modelMessage(h, body))
	m.batches++
	for id, l := range learnt {
		m.known[id] = append([]api.Value{}, l...)
	}
	return api.OK
}

// modelRename lets a Dict array name the values of a dictionary.
func modelRename(f api.Field, d *api.Data, dictionary []api.Value) {
	var b []byte
	for _, v := range denoted(f, *d) {
		n := 0
		if !v.Null {
			n = placeOf(dictionary, v)
		}
		b = append(b, binary.LittleEndian.AppendUint64(nil, uint64(n))[:kind.Width(f.Type)]...)
	}
	values, _, _ := build.Of(f.Type.Fields[0], dictionary)
	d.Buffers[1], d.Dict = b, []api.Data{values}
}

// outcome is what a reader tells of bytes, from the first call on.
type outcome struct {
	schema  string // "no schema": none was told
	batches []api.Batch
	last    error // for ever
}

func sameOutcome(a, b outcome) bool {
	return a.schema == b.schema && slices.EqualFunc(a.batches, b.batches, sameBatch) && sameError(a.last, b.last)
}

// modelReader is a reader by the chapter's words: it keeps the dictionaries as values.
type modelReader struct {
	s       api.Schema
	fields  map[int]api.Field
	known   map[int][]api.Value
	batches []api.Batch
}

// modelRead tells what a reader tells of bytes.
func modelRead(b []byte, shut bool, l api.Limits) outcome {
	f, _ := frame.NewReader(l)
	f.Feed(b)
	if shut {
		f.Shut()
	}
	r := &modelReader{known: map[int][]api.Value{}}
	o := outcome{schema: "no schema"}
	for n := 0; ; n++ {
		m, how, e := f.Next()
		switch {
		case how == frame.More:
			o.last = ErrMore
		case n == 0 && (how == frame.End || e == api.ErrTail):
			o.last = &Wrong{0, api.ErrForm}
		case how == frame.End:
			o.last = ErrEnd
		case how == frame.Wrong:
			o.last = &Wrong{n, e}
		default:
			if e := r.take(n, m); e != api.OK {
				o.last = &Wrong{n, e}
			} else if n == 0 {
				o.schema = printed(r.s)
			}
		}
		if o.last != nil {
			o.batches = r.batches
			return o
		}
	}
}

// take takes the message number n.
func (r *modelReader) take(n int, m api.Message) api.Errno {
	h, x := meta.Get(m.Meta)
	if x.Err != api.OK {
		return x.Err
	}
	switch {
	case n == 0 && h.Kind == api.HeadSchema && len(m.Body) == 0:
		r.s, r.fields = h.Schema, map[int]api.Field{}
		for _, f := range kind.Walk(h.Schema) {
			if f.Type.Kind == api.Dict {
				r.fields[f.Type.ID] = f
			}
		}
		return api.OK
	case n == 0 || h.Kind == api.HeadSchema:
		return api.ErrForm
	case h.Kind == api.HeadDict:
		return r.takeDict(h, m.Body)
	}
	if len(r.batches) == 256 {
		return api.ErrRange
	}
	var dicts []api.Told
	for id, l := range r.known {
		d, _, _ := build.Of(r.fields[id].Type.Fields[0], l)
		dicts = append(dicts, api.Told{ID: id, Values: d})
	}
	b, x := batch.Join(r.s, h, m.Body, dicts)
	if x.Err == api.OK {
		r.batches = append(r.batches, b)
	}
	return x.Err
}

func (r *modelReader) takeDict(h api.Head, body []byte) api.Errno {
	f, ok := r.fields[h.ID]
	if !ok {
		return api.ErrID
	}
	d, x := batch.JoinDict(f, h, body)
	if x.Err != api.OK {
		return x.Err
	}
	child := f.Type.Fields[0]
	known, isKnown := r.known[h.ID]
	if h.Delta && !isKnown {
		return api.ErrNoDict
	}
	l := denoted(child, d)
	if h.Delta {
		l = slices.Concat(known, l)
		if len(l) > 4096 {
			return api.ErrRows
		}
	}
	if _, e, _ := build.Of(child, l); e != api.OK {
		return e
	}
	r.known[h.ID] = l
	return api.OK
}

// messagesOf cuts the bytes of messages, and of an end, into these.
func messagesOf(b []byte) [][]byte {
	var l [][]byte
	for len(b) > 0 {
		m, n := int(binary.LittleEndian.Uint32(b[4:])), int(binary.LittleEndian.Uint32(b[8:]))
		size := 24 + (m+7)/8*8 + (n+7)/8*8
		l = append(l, b[:size:size])
		b = b[size:]
	}
	return l
}

// widest are the limits that let every message.
var widest = api.Limits{Meta: api.MaxMeta, Body: api.MaxBody}

// newReader is a reader with the widest limits that was fed some bytes.
func newReader(t testing.TB, pieces ...[]byte) *Reader {
	t.Helper()
	r, e := NewReader(widest)
	if e != nil {
		t.Fatal(e)
	}
	for _, b := range pieces {
		if e := r.Feed(b); e != nil {
			t.Fatal(e)
		}
	}
	return r
}

// newWriter is a writer.
func newWriter(t testing.TB, s api.Schema, o api.Option) *Writer {
	t.Helper()
	w, e := NewWriter(s, o)
	if e != nil {
		t.Fatalf("%s: NewWriter: %v", printed(s), e)
	}
	return w
}

// rest tells all that a reader tells from now on.
func rest(r *Reader) outcome {
	o := outcome{schema: "no schema"}
	if s, e := r.Schema(); e == nil {
		o.schema = printed(s)
	}
	for o.last == nil {
		b, e := r.Next()
		if e != nil {
			o.last = e
			return o
		}
		o.batches = append(o.batches, b)
	}
	return o
}

// wrote tells the bytes of a stream of batches, ended.
func wrote(t testing.TB, s api.Schema, o api.Option, l ...api.Batch) []byte {
	t.Helper()
	w := newWriter(t, s, o)
	for _, b := range l {
		if e := w.Write(b); e != nil {
			t.Fatalf("%s: Write: %v", printed(s), e)
		}
	}
	if e := w.Close(); e != nil {
		t.Fatal(e)
	}
	return w.Take()
}
