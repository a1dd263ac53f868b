package stream

import (
	"bytes"
	"encoding/binary"
	"slices"
	"testing"

	"colonnade/api"
	"colonnade/batch"
	"colonnade/build"
	"colonnade/frame"
	"colonnade/meta"
)

// numbered is the bytes of numbers of four bytes.
func numbered(l ...int) []byte {
	var b []byte
	for _, n := range l {
		b = binary.LittleEndian.AppendUint32(b, uint32(n))
	}
	return b
}

// dictMessage is the dictionary message of an array.
func dictMessage(t testing.TB, f api.Field, d api.Data, delta bool) []byte {
	t.Helper()
	h, body, e := batch.SplitDict(f, d, delta, api.PressNone)
	if e != api.OK {
		t.Fatalf("SplitDict: %d", e)
	}
	return modelMessage(h, body)
}

// batchMessage is the batch message of a batch.
func batchMessage(t testing.TB, s api.Schema, b api.Batch) []byte {
	t.Helper()
	h, body, e := batch.Split(s, b, api.PressNone)
	if e != api.OK {
		t.Fatalf("Split: %d", e)
	}
	return modelMessage(h, body)
}

// schemaMessage is the message 0 of a stream.
func schemaMessage(s api.Schema) []byte {
	return modelMessage(api.Head{Kind: api.HeadSchema, Schema: s}, nil)
}

// rawMessage is a message whose metadata may be no head.
func rawMessage(metadata, body []byte) []byte {
	b, _ := frame.Put(api.Message{Meta: metadata, Body: body})
	return b
}

// goesWrong tells whether a reader of messages tells so many batches and then what is wrong, at both calls.
func goesWrong(t *testing.T, what string, batches, message int, why api.Errno, messages ...[]byte) {
	t.Helper()
	r := newReader(t, messages...)
	for range batches {
		if _, e := r.Next(); e != nil {
			t.Errorf("%s: %v", what, e)
		}
	}
	_, e := r.Next()
	if !isWrong(e, message, why) {
		t.Errorf("%s: %v", what, e)
	}
	r.Feed(messages[0])
	_, again := r.Next()
	s, other := r.Schema()
	if again != e || message == 0 && other != e || message > 0 && (other != nil || len(s.Fields) == 0) || message == 0 && len(s.Fields) > 0 {
		t.Errorf("%s: then %v, and of the schema %v", what, again, other)
	}
}

// P12.5, 1 to 3: the first message is the schema's, and no other one is; an end stands behind it.
func TestFirstMessage(t *testing.T) {
	s := schema(t, "d dict(0, uint8, w text)")
	first := schemaMessage(s)
	m, _ := meta.Put(api.Head{Kind: api.HeadSchema, Schema: s})
	one := column(t, s, `"x"`)
	words := dictMessage(t, s.Fields[0], one.Columns[0].Dict[0], false)
	rows := batchMessage(t, s, one)
	goesWrong(t, "the end", 0, 0, api.ErrForm, frame.Close())
	goesWrong(t, "the end and more", 0, 0, api.ErrForm, append(frame.Close(), 0))
	goesWrong(t, "the end and a stream", 0, 0, api.ErrForm, append(frame.Close(), first...))
	goesWrong(t, "a dictionary", 0, 0, api.ErrForm, words, first)
	goesWrong(t, "a batch", 0, 0, api.ErrForm, rows, first)
	goesWrong(t, "a schema with a body", 0, 0, api.ErrForm, rawMessage(m, []byte{0}), rows)
	goesWrong(t, "no head", 0, 0, api.ErrShort, rawMessage(m[:7], nil))
	goesWrong(t, "no head, and a body", 0, 0, api.ErrShort, rawMessage(m[:7], []byte{0}))
	goesWrong(t, "a head and more", 0, 0, api.ErrRest, rawMessage(append(slices.Clone(m), 0), []byte{0}))
	goesWrong(t, "a byte of no message", 0, 0, api.ErrMark, []byte("COL2"))
	goesWrong(t, "the schema again", 0, 1, api.ErrForm, first, first, words)
	goesWrong(t, "the schema again, with a body", 1, 3, api.ErrForm, first, words, rows, rawMessage(m, []byte{0}))
	goesWrong(t, "no head, later", 1, 3, api.ErrForm, first, words, rows, rawMessage([]byte{9}, nil))
	goesWrong(t, "a byte of no message, later", 1, 3, api.ErrMark, first, words, rows, []byte{0})
	goesWrong(t, "bytes behind the end", 1, 3, api.ErrTail, first, words, rows, append(frame.Close(), 'C'))
	r := newReader(t)
	r.Shut()
	if _, e := r.Schema(); !isWrong(e, 0, api.ErrCut) {
		t.Errorf("nothing: %v", e)
	}
}

// P12.5, 4: dictionary messages.
func TestDictionaryMessages(t *testing.T) {
	s := schema(t, "a int8?, l list(d dict(3, uint8, w text))?")
	f := s.Fields[1].Type.Fields[0]
	other := schema(t, "d dict(4, uint8, w text)").Fields[0]
	first := schemaMessage(s)
	d, _, _ := build.Of(f.Type.Fields[0], []api.Value{{Text: "x"}, {Text: "y"}})
	good, grows := dictMessage(t, f, d, false), dictMessage(t, f, d, true)
	wrong := func(id int, delta bool) []byte {
		h, body, _ := batch.SplitDict(f, d, delta, api.PressNone)
		h.ID, h.Nodes = id, nil
		return modelMessage(h, body)
	}
	goesWrong(t, "no such number", 0, 1, api.ErrID, first, dictMessage(t, other, d, false))
	goesWrong(t, "no such number, and no nodes", 0, 1, api.ErrID, first, wrong(2, true))
	goesWrong(t, "no nodes", 0, 1, api.ErrNodes, first, wrong(3, false))
	goesWrong(t, "no nodes, and nothing known", 0, 1, api.ErrNodes, first, wrong(3, true))
	goesWrong(t, "nothing known", 0, 1, api.ErrNoDict, first, grows)
	goesWrong(t, "nothing known of another number", 0, 2, api.ErrID, first, good, dictMessage(t, other, d, true))
	r := newReader(t, first, good, grows, good, grows, grows)
	if _, e := r.Next(); e != ErrMore {
		t.Errorf("dictionaries alone: %v", e)
	}
	// Now x y x y x y are known.
	row := api.Data{Length: 1, Buffers: [][]byte{nil, numbered(0, 6)}, Children: []api.Data{{Length: 6, Buffers: [][]byte{nil, {0, 1, 2, 3, 4, 5}}}}}
	words, _, _ := build.Of(f.Type.Fields[0], []api.Value{{Text: "x"}, {Text: "y"}, {Text: "x"}, {Text: "y"}, {Text: "x"}, {Text: "y"}})
	row.Children[0].Dict = []api.Data{words}
	null := api.Data{Length: 1, Nulls: 1, Buffers: [][]byte{{0}, {0}}}
	want := api.Batch{Rows: 1, Columns: []api.Data{null, row}}
	message := batchMessage(t, s, want)
	r.Feed(message)
	if b, e := r.Next(); e != nil || !sameBatch(b, want) {
		t.Errorf("a dictionary that has grown: %+v, %v", b, e)
	}
	r.Feed(slices.Concat(good, message))
	if _, e := r.Next(); !isWrong(e, 8, api.ErrIndex) {
		t.Errorf("a dictionary in its place: %v", e)
	}
}

// P12.5, 4: what keeps a dictionary from being known: more values than MaxRows, more bytes than MaxBytes, no build form.
func TestGreatDictionaries(t *testing.T) {
	s := schema(t, "d dict(0, uint16, w int8)")
	first, f := schemaMessage(s), s.Fields[0]
	some := func(n int, delta bool) []byte {
		return dictMessage(t, f, api.Data{Length: n, Buffers: [][]byte{nil, make([]byte, n)}}, delta)
	}
	all := slices.Concat(first, some(4000, false), some(96, true))
	if _, e := newReader(t, all).Next(); e != ErrMore {
		t.Errorf("MaxRows values: %v", e)
	}
	goesWrong(t, "one more", 0, 3, api.ErrRows, all, some(1, true))
	if _, e := newReader(t, all, some(0, true), some(1, false), some(4095, true)).Next(); e != ErrMore {
		t.Errorf("anew: %v", e)
	}
	s = schema(t, "d dict(0, uint16, w bytes)")
	first, f = schemaMessage(s), s.Fields[0]
	long := func(n int, delta bool) []byte {
		return dictMessage(t, f, api.Data{Length: 1, Buffers: [][]byte{nil, numbered(0, n), make([]byte, n)}}, delta)
	}
	if _, e := newReader(t, first, long(65535, false), long(1, true)).Next(); e != ErrMore {
		t.Errorf("MaxBytes bytes: %v", e)
	}
	goesWrong(t, "one byte more", 0, 2, api.ErrBytes, slices.Concat(first, long(65535, false)), long(2, true))
	s = schema(t, "d dict(0, uint8, w choice(l list(i int8)))")
	first, f = schemaMessage(s), s.Fields[0]
	// Split would lay the list twice: the message is made by hand, with offsets that name it twice.
	twice := func(n int, delta bool) []byte {
		body := slices.Concat(make([]byte, 8), numbered(0, 0), numbered(0, n), make([]byte, n))
		h := api.Head{Kind: api.HeadDict, Delta: delta, Rows: 2, Nodes: []api.Node{{Length: 2}, {Length: 1}, {Length: n}}}
		h.Slots = []api.Slot{{At: 0, Len: 2, Raw: 2}, {At: 8, Len: 8, Raw: 8}, {At: 16}, {At: 16, Len: 8, Raw: 8}, {At: 24}, {At: 24, Len: n, Raw: n}}
		return modelMessage(h, body)
	}
	if _, e := newReader(t, first, twice(1024, false), twice(1024, true)).Next(); e != ErrMore {
		t.Errorf("lists of just so many items: %v", e)
	}
	goesWrong(t, "no build form", 0, 1, api.ErrRows, first, twice(2056, false))
	goesWrong(t, "no build form of the whole", 0, 2, api.ErrRows, slices.Concat(first, twice(1024, false)), twice(1032, true))
}

// P12.5, 5: batch messages.
func TestBatchMessages(t *testing.T) {
	s := schema(t, "a int8?, d dict(3, uint8, w text)")
	first := schemaMessage(s)
	b, e, _ := build.Batch(s, [][]api.Value{{{Num: 5}, {Text: "x"}}, {{Null: true}, {Text: "y"}}})
	if e != api.OK {
		t.Fatal(e)
	}
	words := dictMessage(t, s.Fields[1], b.Columns[1].Dict[0], false)
	one, two := b.Columns[1].Dict[0], batchMessage(t, s, b)
	one.Length = 1
	h, body, _ := batch.Split(s, b, api.PressNone)
	turned := func(turn func(*api.Head, []byte)) []byte {
		h, body := h, slices.Clone(body)
		h.Nodes, h.Slots = slices.Clone(h.Nodes), slices.Clone(h.Slots)
		turn(&h, body)
		return modelMessage(h, body)
	}
	goesWrong(t, "no dictionary", 0, 1, api.ErrUnknown, first, two)
	goesWrong(t, "an index", 0, 2, api.ErrIndex, slices.Concat(first, dictMessage(t, s.Fields[1], one, false)), two)
	goesWrong(t, "a node", 0, 2, api.ErrNodes, slices.Concat(first, words), turned(func(h *api.Head, _ []byte) { h.Nodes[0].Length = 1 }))
	goesWrong(t, "a slot", 1, 3, api.ErrSlots, slices.Concat(first, words), two, turned(func(h *api.Head, _ []byte) { h.Slots[0].Raw++ }))
	goesWrong(t, "a null too many", 0, 2, api.ErrLength, slices.Concat(first, words), turned(func(_ *api.Head, b []byte) { b[0] = 0 }), two)
	none := schema(t, "a null?")
	h = api.Head{Kind: api.HeadBatch, Rows: 4096, Nodes: []api.Node{{Length: 4096, Nulls: 4096}}}
	if got, e := newReader(t, schemaMessage(none), modelMessage(h, nil)).Next(); e != nil || got.Rows != 4096 || got.Columns[0].Nulls != 4096 {
		t.Errorf("nulls: %+v, %v", got, e)
	}
}

// P12.5, 5: MaxBatches batches are taken, and no more, whatever is wrong with the next one; dictionaries may follow.
func TestMostTaken(t *testing.T) {
	s := schema(t, "d dict(0, uint8, w text)")
	b := column(t, s, `"x"`, `"x"`)
	all := slices.Concat(schemaMessage(s), dictMessage(t, s.Fields[0], b.Columns[0].Dict[0], false))
	message := batchMessage(t, s, b)
	for range api.MaxBatches {
		all = append(all, message...)
	}
	words := dictMessage(t, s.Fields[0], b.Columns[0].Dict[0], true)
	wrong := modelMessage(api.Head{Kind: api.HeadBatch}, []byte{1})
	goesWrong(t, "one more", api.MaxBatches, 258, api.ErrRange, all, message)
	goesWrong(t, "one more, and that is wrong", api.MaxBatches, 259, api.ErrRange, all, words, wrong)
	if o := rest(newReader(t, all, words, frame.Close())); len(o.batches) != api.MaxBatches || o.last != ErrEnd {
		t.Errorf("%d batches, %v", len(o.batches), o.last)
	}
}

// P12.4: a reader's limits are layer 7's; what is beyond them is told at its message.
func TestLimits(t *testing.T) {
	for _, l := range []api.Limits{{Meta: -1}, {Body: -1}, {Meta: api.MaxMeta + 1}, {Body: api.MaxBody + 1}, {Meta: -1 << 63, Body: 1<<63 - 1}} {
		if r, e := NewReader(l); r != nil || e != error(api.ErrArg) {
			t.Errorf("%+v: %v", l, e)
		}
	}
	s := schema(t, "a int8")
	all := wrote(t, s, api.Option{}, column(t, s, "1", "2"), column(t, s, "1", "2", "3", "4", "5", "6", "7", "8", "9"))
	messages := messagesOf(all)
	metadata, body := binary.LittleEndian.Uint32(messages[2][4:]), binary.LittleEndian.Uint32(messages[2][8:])
	for _, x := range []struct {
		l       api.Limits
		batches int
		last    error
	}{
		{api.Limits{Meta: int(metadata), Body: int(body)}, 2, ErrEnd},
		{api.Limits{Meta: int(metadata), Body: int(body) - 1}, 1, &Wrong{2, api.ErrLimit}},
		{api.Limits{Meta: int(metadata) - 1, Body: int(body)}, 0, &Wrong{1, api.ErrLimit}},
		{api.Limits{Meta: 12}, 0, &Wrong{1, api.ErrLimit}},
		{api.Limits{Meta: 11, Body: api.MaxBody}, 0, &Wrong{0, api.ErrLimit}},
		{api.Limits{}, 0, &Wrong{0, api.ErrLimit}},
		{widest, 2, ErrEnd},
	} {
		r, e := NewReader(x.l)
		if e != nil {
			t.Fatalf("%+v: %v", x.l, e)
		}
		r.Feed(all)
		if o := rest(r); len(o.batches) != x.batches || !sameError(o.last, x.last) {
			t.Errorf("%+v: %d batches, %v", x.l, len(o.batches), o.last)
		}
	}
	// A length that is too great is told as soon as it is there (W5).
	r, _ := NewReader(api.Limits{Meta: 11})
	r.Feed(all[:15])
	if _, e := r.Next(); e != ErrMore {
		t.Errorf("ahead of its sum: %v", e)
	}
	r.Feed(all[15:16])
	if _, e := r.Next(); !isWrong(e, 0, api.ErrLimit) {
		t.Errorf("behind its sum: %v", e)
	}
}

// P12.4, P12.6: Feed and Shut behind Shut, behind the end, and behind something wrong; an end is told till bytes stand behind it.
func TestShut(t *testing.T) {
	s := schema(t, "a int8")
	all := wrote(t, s, api.Option{}, column(t, s, "1"))
	r := newReader(t, all)
	r.Next()
	for range 2 {
		if _, e := r.Next(); e != ErrEnd {
			t.Errorf("the end: %v", e)
		}
		if e := r.Feed(nil); e != nil {
			t.Errorf("no bytes: %v", e)
		}
	}
	r.Feed([]byte{7})
	_, e := r.Next()
	if !isWrong(e, 2, api.ErrTail) {
		t.Errorf("a byte behind the end: %v", e)
	}
	if e := r.Feed(all); e != nil {
		t.Errorf("Feed behind what is wrong: %v", e)
	}
	if e := r.Shut(); e != nil {
		t.Errorf("Shut behind what is wrong: %v", e)
	}
	if r.Shut() != ErrClosed || r.Feed(all) != ErrClosed || r.Feed(nil) != ErrClosed {
		t.Error("it is shut")
	}
	if _, again := r.Next(); again != e {
		t.Errorf("another error: %v", again)
	}
	r = newReader(t, all)
	if r.Shut() != nil || r.Shut() != ErrClosed || r.Feed([]byte{7}) != ErrClosed {
		t.Error("Shut")
	}
	if o := rest(r); len(o.batches) != 1 || o.last != ErrEnd {
		t.Errorf("shut behind the end: %v", o.last)
	}
	if _, e := r.Next(); e != ErrEnd {
		t.Errorf("again: %v", e)
	}
}

// P12.7: Schema takes the message 0 alone: the same batches are told, whenever it is asked.
func TestSchemaAnyTime(t *testing.T) {
	s := schema(t, `a int8, d dict(0, uint8, w text)? | "k" "v"`)
	b, _, _ := build.Batch(s, [][]api.Value{{{Num: 5}, {Text: "x"}}})
	all := wrote(t, s, api.Option{}, b, b)
	for asked := range 4 {
		r := newReader(t, all)
		for i := range 4 {
			if i == asked {
				if x, e := r.Schema(); e != nil || printed(x) != printed(s) {
					t.Errorf("Schema ahead of call %d: %v, %v", i, x, e)
				}
			}
			got, e := r.Next()
			if i < 2 && (e != nil || !sameBatch(got, b)) || i >= 2 && e != ErrEnd {
				t.Errorf("Next number %d: %v", i, e)
			}
		}
	}
	r := newReader(t, schemaMessage(s), []byte{1})
	if x, e := r.Schema(); e != nil || printed(x) != printed(s) {
		t.Errorf("ahead of something wrong: %v", e)
	}
	if _, e := r.Next(); !isWrong(e, 1, api.ErrMark) {
		t.Errorf("something wrong: %v", e)
	}
	if x, e := r.Schema(); e != nil || printed(x) != printed(s) {
		t.Errorf("behind something wrong: %v", e)
	}
}

// What a reader holds behind something wrong: nothing of what was fed, or is (W5).
func TestLetsGo(t *testing.T) {
	s := schema(t, "a int8")
	r := newReader(t, schemaMessage(s), schemaMessage(s), bytes.Repeat(schemaMessage(s), 100))
	r.Next()
	r.Feed(make([]byte, 1000))
	if r.frames != nil || r.book != nil {
		t.Error("bytes are kept")
	}
}
