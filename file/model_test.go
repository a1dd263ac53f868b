package file

import (
	"encoding/binary"
	"errors"
	"hash/fnv"
	"slices"
	"testing"

	"colonnade/api"
	"colonnade/array"
	"colonnade/batch"
	"colonnade/build"
	"colonnade/frame"
	"colonnade/kind"
	"colonnade/meta"
	"colonnade/stream"
)

// sameData tells whether two arrays lie alike.
func sameData(a, b api.Data) bool {
	return a.Length == b.Length && a.Offset == b.Offset && a.Nulls == b.Nulls &&
		slices.EqualFunc(a.Buffers, b.Buffers, slices.Equal[[]byte]) &&
		slices.EqualFunc(a.Children, b.Children, sameData) && slices.EqualFunc(a.Dict, b.Dict, sameData)
}

func sameBatch(a, b api.Batch) bool {
	return a.Rows == b.Rows && slices.EqualFunc(a.Columns, b.Columns, sameData)
}

func sameFault(a, b api.Fault) bool {
	return a.Err == b.Err && a.At == b.At && slices.Equal(a.Path, b.Path)
}

// sameForms tells whether two batches denote the same rows.
func sameForms(s api.Schema, a, b api.Batch) bool {
	if a.Rows != b.Rows || len(a.Columns) != len(s.Fields) || len(b.Columns) != len(s.Fields) {
		return false
	}
	for k, f := range s.Fields {
		x, e := build.Form(f, a.Columns[k])
		y, u := build.Form(f, b.Columns[k])
		if e != api.OK || u != api.OK || !sameData(x, y) {
			return false
		}
	}
	return true
}

// printed is a schema's text, notes too: that of one is no other's.
func printed(s api.Schema) string {
	text, e := kind.Print(s)
	if e != api.OK {
		return "no schema"
	}
	return text
}

// denoted tells the values of an array.
func denoted(f api.Field, d api.Data) []api.Value {
	a, x := array.Open(f, d)
	if x.Err != api.OK {
		panic(x.Err)
	}
	return a.Values()
}

// numberAt tells the number of four bytes at a place.
func numberAt(b []byte, at int) int { return int(binary.LittleEndian.Uint32(b[at:])) }

// laidNumbers are numbers of four bytes each.
func laidNumbers(l ...int) []byte {
	var b []byte
	for _, n := range l {
		b = binary.LittleEndian.AppendUint32(b, uint32(n))
	}
	return b
}

// messagesOf cuts the bytes of messages, and of an end, into these.
func messagesOf(b []byte) [][]byte {
	var l [][]byte
	for len(b) > 0 {
		size := 24 + (numberAt(b, 4)+7)/8*8 + (numberAt(b, 8)+7)/8*8
		l = append(l, b[:size:size])
		b = b[size:]
	}
	return l
}

// entriesOf tells the entries of messages, by what their bytes say; the end has none.
func entriesOf(messages [][]byte) [][6]int {
	var l [][6]int
	at := 8
	for _, m := range messages {
		if string(m[:4]) == "COL1" {
			e := [6]int{0, at, numberAt(m, 4), numberAt(m, 8), 0, 0}
			if e[2] > 0 {
				e[0] = int(m[24])
			}
			if e[0] == 3 && e[2] >= 8 {
				e[4] = numberAt(m, 28)
			}
			l = append(l, e)
		}
		at += len(m)
	}
	return l
}

// modelFoot tells the bytes of a foot.
func modelFoot(entries [][6]int, extra []byte) []byte {
	b := laidNumbers(len(entries))
	for _, e := range entries {
		b = append(b, laidNumbers(e[:]...)...)
	}
	return slices.Concat(b, laidNumbers(len(extra)), extra)
}

// modelFile tells the bytes of a file of a stream's bytes and a foot's.
func modelFile(stream, foot []byte) []byte {
	h := fnv.New32a()
	h.Write(foot)
	tail := laidNumbers(len(foot), 1<<32-1-len(foot), int(h.Sum32()))
	return slices.Concat([]byte("COLFILE1"), stream, foot, tail, []byte("COLFILE1"))
}

// whole tells the bytes of a file of messages, with the foot that is theirs.
func whole(messages [][]byte, extra []byte) []byte {
	return modelFile(slices.Concat(messages...), modelFoot(entriesOf(messages), extra))
}

// modelPut is Put by the chapter's words.
func modelPut(t api.Table, o api.Option, extra []byte) ([]byte, api.Errno) {
	w, err := stream.NewWriter(t.Schema, o)
	if err != nil {
		return nil, err.(api.Errno)
	}
	if len(extra) > 65536 {
		return nil, api.ErrBytes
	}
	for _, b := range t.Batches {
		var wrong *stream.Wrong
		if errors.As(w.Write(b), &wrong) {
			return nil, wrong.Why
		}
	}
	w.Close()
	b := whole(messagesOf(w.Take()), extra)
	if len(b) > 16777216 {
		return nil, api.ErrBytes
	}
	return b, api.OK
}

// model is a file by the chapter's words. It keeps the foot and the schema; the bytes are those that were handed in.
type model struct {
	b       []byte
	entries [][6]int
	extra   []byte
	schema  api.Schema
	batches []int // the entries' numbers
}

// modelSize tells how many bytes an entry's message has.
func modelSize(e [6]int) int { return 24 + (e[2]+7)/8*8 + (e[3]+7)/8*8 }

// modelTail tells the place of the foot, or where there is none.
func modelTail(b []byte) (int, api.Fault) {
	n := len(b)
	if n < 28 || string(b[:8]) != "COLFILE1" {
		return 0, api.Fault{Err: api.ErrFoot, At: 0}
	}
	x := api.Fault{Err: api.ErrFoot, At: n - 20}
	long := numberAt(b, n-20)
	if string(b[n-8:]) != "COLFILE1" || numberAt(b, n-16) != 1<<32-1-long || long < 8 || long > n-28 {
		return 0, x
	}
	h := fnv.New32a()
	h.Write(b[n-20-long : n-20])
	if int(h.Sum32()) != numberAt(b, n-12) {
		return 0, x
	}
	return n - 20 - long, api.Fault{}
}

// modelOpen is Open by the chapter's words.
func modelOpen(b []byte) (*model, api.Fault) {
	if len(b) > 16777216 {
		return nil, api.Fault{Err: api.ErrBytes, At: 16777216}
	}
	at, x := modelTail(b)
	if x.Err != api.OK {
		return nil, x
	}
	foot := b[at : len(b)-20]
	n := numberAt(foot, 0)
	if 8+24*n > len(foot) || 8+24*n+numberAt(foot, 4+24*n) != len(foot) || len(foot)-8-24*n > 65536 {
		return nil, api.Fault{Err: api.ErrFoot, At: at}
	}
	m := &model{b: b, extra: slices.Clone(foot[8+24*n:])}
	end := 8
	for k := range n {
		var e [6]int
		for i := range e {
			e[i] = numberAt(foot, 4+24*k+4*i)
		}
		wrong := e[1] != end || e[2] > 65536 || e[3] > 4194304 || e[4] > 4096 || e[5] != 0
		wrong = wrong || (k == 0) != (e[0] == 1) || e[0] < 1 || e[0] > 3 || e[0] != 3 && e[4] != 0
		if e[0] == 3 {
			m.batches = append(m.batches, k)
		}
		if wrong || len(m.batches) > 256 {
			return nil, api.Fault{Err: api.ErrBlock, At: k}
		}
		m.entries = append(m.entries, e)
		end += modelSize(e)
	}
	if n == 0 || end+24 != at || string(b[end:at]) != string(frame.Close()) {
		return nil, api.Fault{Err: api.ErrBlock, At: n}
	}
	h, _, e := m.read(0)
	if e != api.OK {
		return nil, api.Fault{Err: e}
	}
	m.schema = h.Schema
	return m, api.Fault{}
}

// widest are the limits that let every message.
var widest = api.Limits{Meta: api.MaxMeta, Body: api.MaxBody}

// read is to read an entry: a stream's reader must find just that message there.
func (m *model) read(k int) (api.Head, []byte, api.Errno) {
	e := m.entries[k]
	r, _ := frame.NewReader(widest)
	r.Feed(m.b[e[1] : e[1]+modelSize(e)])
	got, how, _ := r.Next()
	if how != frame.One || len(got.Meta) != e[2] || len(got.Body) != e[3] || r.Held() != 0 {
		return api.Head{}, nil, api.ErrBlock
	}
	h, x := meta.Get(got.Meta)
	if x.Err != api.OK {
		return api.Head{}, nil, x.Err
	}
	if h.Kind != e[0] || k == 0 && e[3] > 0 {
		return api.Head{}, nil, api.ErrForm
	}
	return h, got.Body, api.OK
}

// dictField tells the Dict field of a number.
func (m *model) dictField(id int) (api.Field, bool) {
	for _, f := range kind.Walk(m.schema) {
		if f.Type.Kind == api.Dict && f.Type.ID == id {
			return f, true
		}
	}
	return api.Field{}, false
}

// learn tells the dictionary's number and its values behind an entry.
func (m *model) learn(known map[int][]api.Value, k int) api.Errno {
	h, body, e := m.read(k)
	if e != api.OK {
		return e
	}
	f, ok := m.dictField(h.ID)
	if !ok {
		return api.ErrID
	}
	d, x := batch.JoinDict(f, h, body)
	if x.Err != api.OK {
		return x.Err
	}
	was, isKnown := known[h.ID]
	if h.Delta && !isKnown {
		return api.ErrNoDict
	}
	l := denoted(f.Type.Fields[0], d)
	if h.Delta {
		l = slices.Concat(was, l)
		if len(l) > 4096 {
			return api.ErrRows
		}
	}
	if _, e, _ := build.Of(f.Type.Fields[0], l); e != api.OK {
		return e
	}
	known[h.ID] = l
	return api.OK
}

// some is Some by the chapter's words.
func (m *model) some(i int, columns []int) (api.Batch, api.Fault) {
	if i < 0 || i >= len(m.batches) {
		return api.Batch{}, api.Fault{Err: api.ErrRange, At: i}
	}
	known := map[int][]api.Value{}
	for k := range m.batches[i] {
		if m.entries[k][0] != 2 {
			continue
		}
		if e := m.learn(known, k); e != api.OK {
			return api.Batch{}, api.Fault{Err: e, At: k}
		}
	}
	k := m.batches[i]
	h, body, e := m.read(k)
	if e == api.OK && h.Rows != m.entries[k][4] {
		e = api.ErrUnlike
	}
	if e != api.OK {
		return api.Batch{}, api.Fault{Err: e, At: k}
	}
	var dicts []api.Told
	for id, l := range known {
		f, _ := m.dictField(id)
		d, _, _ := build.Of(f.Type.Fields[0], l)
		dicts = append(dicts, api.Told{ID: id, Values: d})
	}
	return batch.Some(m.schema, h, body, dicts, columns)
}

// batch is Batch by the chapter's words.
func (m *model) batch(i int) (api.Batch, api.Fault) {
	var all []int
	for k := range m.schema.Fields {
		all = append(all, k)
	}
	return m.some(i, all)
}

// check is Check by the chapter's words.
func (m *model) check() api.Fault {
	for i := range m.batches {
		if _, x := m.batch(i); x.Err != api.OK {
			return api.Fault{Err: x.Err, Path: append([]int{i}, x.Path...), At: x.At}
		}
	}
	return api.Fault{}
}

// put is Put that must not be refused.
func put(t testing.TB, table api.Table, o api.Option, extra []byte) []byte {
	t.Helper()
	b, e := Put(table, o, extra)
	if e != api.OK {
		t.Fatalf("%s: Put: %d", printed(table.Schema), e)
	}
	return b
}

// opened is Open that must not be refused.
func opened(t testing.TB, b []byte) *File {
	t.Helper()
	f, x := Open(b)
	if x.Err != api.OK || f == nil || x.At != 0 || len(x.Path) != 0 {
		t.Fatalf("Open: %+v", x)
	}
	return f
}

// streamIn tells the messages of a file, and its end, where they lie.
func streamIn(b []byte) [][]byte {
	return messagesOf(b[8 : len(b)-20-numberAt(b, len(b)-20)])
}
