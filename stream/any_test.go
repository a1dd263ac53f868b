package stream

import (
	"encoding/binary"
	"errors"
	"slices"
	"testing"

	"colonnade/api"
	"colonnade/batch"
	"colonnade/build"
	"colonnade/frame"
	"colonnade/kind"
	"colonnade/meta"
)

// stream makes batches of a schema, and the bytes that a writer makes of them.
func (c *chance) stream(t *testing.T, most int) (api.Schema, []api.Batch, []byte) {
	t.Helper()
	s := c.schema(most)
	var l []api.Batch
	for range c.Intn(6) {
		l = append(l, c.batch(s, c.Intn(9)))
	}
	return s, l, wrote(t, s, c.option(), l...)
}

// read feeds a reader pieces, and asks it now and then; what it has told is held against what is told of the whole, wherever that is known already.
func (c *chance) read(t *testing.T, r *Reader, pieces [][]byte, shut bool, whole outcome) outcome {
	t.Helper()
	o := outcome{schema: "no schema"}
	for _, p := range pieces {
		if e := r.Feed(p); e != nil {
			t.Fatalf("Feed: %v", e)
		}
		if c.Intn(len(pieces)/8+1) == 0 {
			c.ask(t, r, &o, c.Intn(3))
		}
		if len(o.batches) > len(whole.batches) || o.schema != "no schema" && o.schema != whole.schema {
			t.Fatalf("%d batches of %s; of the whole %d of %s", len(o.batches), o.schema, len(whole.batches), whole.schema)
		}
	}
	if shut {
		if e := r.Shut(); e != nil {
			t.Fatalf("Shut: %v", e)
		}
	}
	c.ask(t, r, &o, len(whole.batches)+2)
	for range 3 {
		c.ask(t, r, &o, 1)
	}
	return o
}

// ask asks so often for a batch, and at times for the schema.
func (c *chance) ask(t *testing.T, r *Reader, o *outcome, times int) {
	t.Helper()
	for range times {
		if c.Intn(3) == 0 {
			c.askSchema(t, r, o)
		}
		b, e := r.Next()
		if e == nil {
			o.batches = append(o.batches, b)
			continue
		}
		if !sameBatch(b, api.Batch{}) {
			t.Fatalf("a batch beside %v", e)
		}
		var was *Wrong
		if errors.As(o.last, &was) && o.last != e {
			t.Fatalf("%v, and then %v", o.last, e)
		}
		o.last = e
	}
	if times > 0 {
		c.askSchema(t, r, o)
	}
}

func (c *chance) askSchema(t *testing.T, r *Reader, o *outcome) {
	t.Helper()
	s, e := r.Schema()
	if e == nil {
		o.schema = printed(s)
		return
	}
	if o.schema != "no schema" || len(o.batches) > 0 || len(s.Fields) > 0 || len(s.Notes) > 0 {
		t.Fatalf("no schema any more: %v", e)
	}
	if e != ErrMore {
		if o.last != nil && o.last != ErrMore && o.last != e {
			t.Fatalf("%v, and then of the schema %v", o.last, e)
		}
		o.last = e
	}
}

// P12.8, P12.9, W1: what a writer wrote a reader tells, in pieces of any size, with limits that just let it.
func TestThereAndBack(t *testing.T) {
	c := newChance(11)
	rows := 0
	for range 1500 {
		s, l, b := c.stream(t, 4)
		var limits api.Limits
		for _, m := range messagesOf(b) {
			limits.Meta = max(limits.Meta, int(binary.LittleEndian.Uint32(m[4:])))
			limits.Body = max(limits.Body, int(binary.LittleEndian.Uint32(m[8:])))
		}
		r, e := NewReader(limits)
		if e != nil {
			t.Fatal(e)
		}
		shut := c.Intn(2) == 0
		o := c.read(t, r, c.pieces(b), shut, modelRead(b, shut, limits))
		if o.schema != printed(s) || o.last != ErrEnd || len(o.batches) != len(l) {
			t.Fatalf("%s: %d batches of %d, of %s, %v", printed(s), len(o.batches), len(l), o.schema, o.last)
		}
		for i, got := range o.batches {
			if !sameForms(s, got, l[i]) {
				t.Fatalf("%s: batch %d denotes other rows", printed(s), i)
			}
			if x := batch.Check(s, got); x.Err != api.OK {
				t.Fatalf("%s: batch %d: %+v", printed(s), i, x)
			}
			rows += got.Rows
		}
	}
	if rows < 8000 {
		t.Errorf("%d rows", rows)
	}
}

// W1: however a batch lies, and whatever the way of writing, what is told lies the same, but for the press: the bytes of a batch don't hang on how it lay.
func TestLying(t *testing.T) {
	c := newChance(12)
	for range 600 {
		s, l, _ := c.stream(t, 3)
		o := c.option()
		var formed []api.Batch
		for _, b := range l {
			f := api.Batch{Rows: b.Rows}
			for k, d := range b.Columns {
				x, e := build.Form(s.Fields[k], d)
				if e != api.OK {
					t.Fatal(e)
				}
				f.Columns = append(f.Columns, x)
			}
			formed = append(formed, f)
		}
		b := wrote(t, s, o, l...)
		if !slices.Equal(b, wrote(t, s, o, formed...)) {
			t.Fatalf("%s: the bytes hang on how the batches lay", printed(s))
		}
		first := rest(newReader(t, b))
		for press := range 3 {
			for _, delta := range []bool{true, false} {
				if !sameOutcome(first, rest(newReader(t, wrote(t, s, api.Option{Press: press, Delta: delta}, l...)))) {
					t.Fatalf("%s: press %d, delta %v: another outcome", printed(s), press, delta)
				}
			}
		}
	}
}

// hurtMessages does one thing to messages that may make them no stream; their sums are right again.
func (c *chance) hurtMessages(l [][]byte, others [][]byte) [][]byte {
	l = slices.Clone(l)
	i := c.Intn(len(l))
	switch c.Intn(8) {
	case 0:
		return slices.Delete(l, i, i+1)
	case 1:
		return slices.Insert(l, i, l[c.Intn(len(l))])
	case 2:
		k := c.Intn(len(l))
		l[i], l[k] = l[k], l[i]
	case 3:
		return slices.Insert(l, i, others[c.Intn(len(others))])
	default:
		l[i] = c.hurtMessage(l[i])
	}
	return l
}

// hurtMessage does one thing to a message, and frames it again.
func (c *chance) hurtMessage(b []byte) []byte {
	f, _ := frame.NewReader(widest)
	f.Feed(b)
	m, how, _ := f.Next()
	if how != frame.One {
		return b
	}
	h, x := meta.Get(m.Meta)
	switch c.Intn(7) {
	case 0:
		m.Meta[c.Intn(len(m.Meta))] ^= byte(1 << c.Intn(8))
	case 1:
		m.Meta = append(m.Meta, byte(c.Intn(3)))
	case 2:
		m.Body = append(m.Body, make([]byte, 1+c.Intn(8))...)
	case 3, 4:
		c.hurtSlot(h, m.Body)
	default:
		if x.Err == api.OK && h.Kind != api.HeadSchema {
			c.hurtHead(&h)
			if b, e := meta.Put(h); e == api.OK {
				m.Meta = b
			}
		}
	}
	b, _ = frame.Put(m)
	return b
}

// hurtSlot writes into the bytes of one slot, and not behind it.
func (c *chance) hurtSlot(h api.Head, body []byte) {
	if len(h.Slots) == 0 {
		return
	}
	s := h.Slots[c.Intn(len(h.Slots))]
	if s.At+s.Len <= len(body) {
		c.scratch(body[s.At : s.At+s.Len])
	}
}

// hurtHead does one thing to a head that may keep it from fitting.
func (c *chance) hurtHead(h *api.Head) {
	switch nodes, slots := len(h.Nodes), len(h.Slots); c.Intn(6) {
	case 0:
		h.Delta = !h.Delta && h.Kind == api.HeadDict
	case 1:
		h.Kind = api.HeadDict
		h.ID = (h.ID + c.Intn(8)) % api.MaxDicts
	case 2:
		h.Rows += c.Intn(3) - 1
	case 3:
		h.Press = c.Intn(3)
	case 4:
		if nodes > 0 {
			n := &h.Nodes[c.Intn(nodes)]
			*[]*int{&n.Length, &n.Nulls}[c.Intn(2)] += c.Intn(3) - 1
		}
	default:
		if slots > 0 {
			s := &h.Slots[c.Intn(slots)]
			*[]*int{&s.At, &s.Len, &s.Raw}[c.Intn(3)] += []int{-8, -1, 1, 8}[c.Intn(4)]
		}
	}
}

// hurtBytes does one thing to bytes that their sums tell.
func (c *chance) hurtBytes(b []byte) []byte {
	b = slices.Clone(b)
	switch c.Intn(5) {
	case 0:
		return b[:c.Intn(len(b)+1)]
	case 1:
		return append(b, byte(c.Intn(256)))
	case 2:
		if len(b) > 0 {
			b[c.Intn(len(b))] ^= byte(1 + c.Intn(255))
		}
	}
	return b
}

// P12.5 to P12.7, P12.9, P12.10, W2: of any bytes, in any pieces, with questions between them, a reader tells what the chapter's words say of the whole; and the batches are of the schema.
func TestReadAny(t *testing.T) {
	c := newChance(13)
	seen := map[api.Errno]int{}
	_, _, other := c.stream(t, 3)
	for range 7000 {
		s, _, b := c.stream(t, 3)
		l := messagesOf(b)
		for range c.Intn(3) {
			if len(l) > 0 {
				l = c.hurtMessages(l, messagesOf(other))
			}
		}
		other = b
		b = c.hurtBytes(slices.Concat(l...))
		limits, shut := widest, c.Intn(2) == 0
		if c.Intn(8) == 0 {
			limits = api.Limits{Meta: c.Intn(100), Body: c.Intn(100)}
		}
		want := modelRead(b, shut, limits)
		r, e := NewReader(limits)
		if e != nil {
			t.Fatal(e)
		}
		o := c.read(t, r, c.pieces(b), shut, want)
		if !sameOutcome(o, want) {
			t.Fatalf("%s: %d batches of %s, %v; wanted %d of %s, %v", printed(s), len(o.batches), o.schema, o.last, len(want.batches), want.schema, want.last)
		}
		ofSchema(t, r, o)
		var w *Wrong
		if errors.As(o.last, &w) {
			seen[w.Why]++
		} else if shut && o.last != ErrEnd {
			t.Fatalf("%s: behind Shut: %v", printed(s), o.last)
		}
	}
	for _, e := range []api.Errno{api.ErrForm, api.ErrShort, api.ErrRest, api.ErrHead, api.ErrMark, api.ErrSum, api.ErrLimit, api.ErrCut, api.ErrTail, api.ErrID, api.ErrNoDict, api.ErrUnknown, api.ErrNodes, api.ErrSlots, api.ErrIndex, api.ErrLength, api.ErrSmall, api.ErrOffsets} {
		if seen[e] == 0 {
			t.Errorf("the error %d is never told", e)
		}
	}
}

// ofSchema looks whether batches are of the reader's schema, with dictionaries in build form.
func ofSchema(t *testing.T, r *Reader, o outcome) {
	t.Helper()
	if len(o.batches) == 0 {
		return
	}
	s, e := r.Schema()
	if e != nil {
		t.Fatal(e)
	}
	for i, b := range o.batches {
		if x := batch.Check(s, b); x.Err != api.OK {
			t.Fatalf("%s: batch %d: %+v", printed(s), i, x)
		}
		for way, f := range kind.Walk(s) {
			if f.Type.Kind == api.Dict && !build.IsForm(f.Type.Fields[0], modelAt(s, b.Columns, way).Dict[0]) {
				t.Fatalf("%s: batch %d: the dictionary %d is not in build form", printed(s), i, f.Type.ID)
			}
		}
	}
}

// P12.10, W2: likewise of bytes that nobody wrote.
func TestNoise(t *testing.T) {
	c := newChance(14)
	for range 5000 {
		b := make([]byte, c.Intn(60))
		c.Read(b)
		if c.Intn(2) == 0 {
			copy(b, "COL1")
		}
		if c.Intn(4) == 0 {
			m := make([]byte, c.Intn(40))
			c.Read(m)
			copy(m, []byte{byte(1 + c.Intn(3)), 1, 0, 0})
			b = append(rawMessage(m, nil), b...)
		}
		shut := c.Intn(2) == 0
		want := modelRead(b, shut, widest)
		if o := c.read(t, newReader(t), c.pieces(b), shut, want); !sameOutcome(o, want) {
			t.Fatalf("% x: %v; wanted %v", b, o.last, want.last)
		}
	}
}

// P12.11: with one byte another one the batches ahead of it are told as they were, and then, behind Shut, something wrong at its message.
func TestOneByte(t *testing.T) {
	c := newChance(15)
	for range 60 {
		_, _, b := c.stream(t, 2)
		whole := rest(newReader(t, b))
		ends, batches := places(t, b)
		for i := range b {
			if len(b) > 1500 && c.Intn(len(b)/1500+1) > 0 {
				continue
			}
			turned := slices.Clone(b)
			turned[i] ^= byte(1 + c.Intn(255))
			n, _ := slices.BinarySearch(ends, i+1)
			r := newReader(t, turned)
			r.Shut()
			o := rest(r)
			var w *Wrong
			if len(o.batches) != batches[n] || !errors.As(o.last, &w) || w.Message != n || (n > 0) != (o.schema == whole.schema) {
				t.Fatalf("byte %d, of message %d: %d batches of %d, %v", i, n, len(o.batches), batches[n], o.last)
			}
			if !slices.EqualFunc(o.batches, whole.batches[:batches[n]], sameBatch) {
				t.Fatalf("byte %d: other batches", i)
			}
		}
	}
}

// places tells where each message, and the end, ends, and how many batches are ahead of it.
func places(t *testing.T, b []byte) (ends, batches []int) {
	t.Helper()
	at, n := 0, 0
	for _, m := range messagesOf(b) {
		at += len(m)
		ends, batches = append(ends, at), append(batches, n)
		if string(m[:4]) == "COL1" && m[24] == api.HeadBatch {
			n++
		}
	}
	return ends, batches
}

// P12.11: cut anywhere ahead of its last byte, and shut: the batches that are whole, and ErrCut at the message that is not; not shut, ErrMore.
func TestCutAnywhere(t *testing.T) {
	c := newChance(16)
	for range 60 {
		_, _, b := c.stream(t, 2)
		whole := rest(newReader(t, b))
		ends, batches := places(t, b)
		for i := range b {
			if len(b) > 1500 && c.Intn(len(b)/1500+1) > 0 {
				continue
			}
			n, _ := slices.BinarySearch(ends, i+1)
			r := newReader(t, b[:i])
			o := rest(r)
			if o.last != ErrMore || !slices.EqualFunc(o.batches, whole.batches[:batches[n]], sameBatch) {
				t.Fatalf("cut at %d: %d batches, %v", i, len(o.batches), o.last)
			}
			r.Shut()
			if o := rest(r); !isWrong(o.last, n, api.ErrCut) || len(o.batches) != 0 {
				t.Fatalf("cut at %d, and shut: %v", i, o.last)
			}
		}
	}
}
