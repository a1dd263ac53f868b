package file

import (
	"bytes"
	"slices"
	"testing"

	"colonnade/api"
	"colonnade/batch"
	"colonnade/build"
	"colonnade/frame"
	"colonnade/kind"
	"colonnade/meta"
	"colonnade/stream"
)

// P13.1: whatever table is handed in, with whatever option, Put answers what the chapter's words say, byte by byte.
func TestPutAny(t *testing.T) {
	c := newChance(1)
	seen := map[api.Errno]int{}
	for range 2500 {
		table, o := c.table(4), c.option()
		if n := len(table.Batches); n > 0 && c.Intn(3) == 0 {
			c.hurt(&table.Batches[c.Intn(n)])
		}
		switch c.Intn(20) {
		case 0:
			o.Press = c.odd()
		case 1:
			table.Schema.Fields = append(table.Schema.Fields, api.Field{Name: "a", Type: api.Type{Kind: c.Intn(22)}})
		}
		extra := c.noise(c.Intn(20))
		want, e := modelPut(table, o, extra)
		b, u := Put(table, o, extra)
		if e != u || !bytes.Equal(b, want) {
			t.Fatalf("%s: %d bytes, %d; wanted %d, %d", printed(table.Schema), len(b), u, len(want), e)
		}
		seen[u]++
	}
	for _, e := range []api.Errno{api.OK, api.ErrType, api.ErrArg, api.ErrColumns, api.ErrShape, api.ErrLength, api.ErrSmall, api.ErrOffsets, api.ErrIndex} {
		if seen[e] == 0 {
			t.Errorf("the error %d is never told", e)
		}
	}
}

// P13.2, P13.3, W6: what Put tells opens, and tells the table; by any columns; and what lies within it is a stream that a reader reads.
func TestThereAndBack(t *testing.T) {
	c := newChance(2)
	rows := 0
	for range 1500 {
		table, extra := c.table(4), c.noise(c.Intn(20))
		s, b := table.Schema, put(t, table, c.option(), extra)
		f := opened(t, b)
		if printed(f.Schema()) != printed(s) || !bytes.Equal(f.Extra(), extra) || f.Len() != len(table.Batches) {
			t.Fatalf("%s: %s, %d batches of %d", printed(s), printed(f.Schema()), f.Len(), len(table.Batches))
		}
		for i, was := range table.Batches {
			got, x := f.Batch(i)
			if x.Err != api.OK || !sameForms(s, got, was) || f.Rows(i) != was.Rows {
				t.Fatalf("%s: batch %d of %d rows denotes other ones: %+v", printed(s), i, f.Rows(i), x)
			}
			columns := c.columns(len(s.Fields))
			some, x := f.Some(i, columns)
			if x.Err == api.ErrRange {
				continue
			}
			for k, n := range columns {
				if x.Err != api.OK || len(some.Columns) != len(columns) || some.Rows != was.Rows || !sameData(some.Columns[k], got.Columns[n]) {
					t.Fatalf("%s: Some(%d, %v) is not what Batch tells: %+v", printed(s), i, columns, x)
				}
			}
			rows += got.Rows
		}
		if x := f.Check(); x.Err != api.OK {
			t.Fatalf("%s: Check: %+v", printed(s), x)
		}
		within(t, f, slices.Concat(streamIn(b)...))
	}
	if rows < 8000 {
		t.Errorf("%d rows", rows)
	}
}

// within looks whether a reader tells of a stream the schema and the batches that a file tells, and then the end.
func within(t *testing.T, f *File, b []byte) {
	t.Helper()
	r, _ := stream.NewReader(widest)
	r.Feed(b)
	r.Shut()
	if s, e := r.Schema(); e != nil || printed(s) != printed(f.Schema()) {
		t.Fatalf("the stream's schema: %s, %v", printed(s), e)
	}
	for i := range f.Len() {
		want, x := f.Batch(i)
		got, e := r.Next()
		if e != nil || x.Err != api.OK || !sameBatch(got, want) {
			t.Fatalf("the stream's batch %d: %v; the file's: %+v", i, e, x)
		}
	}
	if _, e := r.Next(); e != stream.ErrEnd {
		t.Fatalf("behind the stream's batches: %v", e)
	}
}

// hurtMessages does one thing to messages that may make them no stream; their sums are right again.
func (c *chance) hurtMessages(l [][]byte, others [][]byte) [][]byte {
	l = slices.Clone(l)
	i := c.Intn(len(l))
	switch c.Intn(8) {
	case 0:
		return slices.Delete(l, i, i+1)
	case 1:
		return slices.Insert(l, i, l[c.Intn(len(l))])
	case 2:
		k := c.Intn(len(l))
		l[i], l[k] = l[k], l[i]
	case 3:
		return slices.Insert(l, i, others[c.Intn(len(others))])
	default:
		l[i] = c.hurtMessage(l[i])
	}
	return l
}

// hurtMessage does one thing to a message, and frames it again.
func (c *chance) hurtMessage(b []byte) []byte {
	f, _ := frame.NewReader(widest)
	f.Feed(b)
	m, how, _ := f.Next()
	if how != frame.One {
		return b
	}
	h, x := meta.Get(m.Meta)
	switch c.Intn(7) {
	case 0:
		m.Meta[c.Intn(len(m.Meta))] ^= byte(1 << c.Intn(8))
	case 1:
		m.Meta = append(m.Meta, byte(c.Intn(3)))
	case 2:
		m.Body = append(m.Body, make([]byte, 1+c.Intn(8))...)
	case 3, 4:
		c.hurtSlot(h, m.Body)
	default:
		if x.Err == api.OK && h.Kind != api.HeadSchema {
			c.hurtHead(&h)
			if b, e := meta.Put(h); e == api.OK {
				m.Meta = b
			}
		}
	}
	b, _ = frame.Put(m)
	return b
}

// hurtSlot writes into the bytes of one slot, and not behind it.
func (c *chance) hurtSlot(h api.Head, body []byte) {
	if len(h.Slots) == 0 {
		return
	}
	s := h.Slots[c.Intn(len(h.Slots))]
	if s.At+s.Len <= len(body) {
		c.scratch(body[s.At : s.At+s.Len])
	}
}

// hurtHead does one thing to a head that may keep it from fitting.
func (c *chance) hurtHead(h *api.Head) {
	switch nodes, slots := len(h.Nodes), len(h.Slots); c.Intn(6) {
	case 0:
		h.Delta = !h.Delta && h.Kind == api.HeadDict
	case 1:
		h.Kind = api.HeadDict
		h.ID = (h.ID + c.Intn(8)) % api.MaxDicts
	case 2:
		h.Rows += c.Intn(3) - 1
	case 3:
		h.Press = c.Intn(3)
	case 4:
		if nodes > 0 {
			n := &h.Nodes[c.Intn(nodes)]
			*[]*int{&n.Length, &n.Nulls}[c.Intn(2)] += c.Intn(3) - 1
		}
	default:
		if slots > 0 {
			s := &h.Slots[c.Intn(slots)]
			*[]*int{&s.At, &s.Len, &s.Raw}[c.Intn(3)] += []int{-8, -1, 1, 8}[c.Intn(4)]
		}
	}
}

// hurtFoot does one thing to entries that may keep them from fitting.
func (c *chance) hurtFoot(l [][6]int) [][6]int {
	if len(l) == 0 {
		return l
	}
	i := c.Intn(len(l))
	switch c.Intn(7) {
	case 0:
		return slices.Delete(l, i, i+1)
	case 1:
		return slices.Insert(l, i, l[c.Intn(len(l))])
	case 2:
		k := c.Intn(len(l))
		l[i], l[k] = l[k], l[i]
	case 3:
		l[i][0] = c.Intn(5)
	case 4:
		l[i][4] = []int{0, 1, l[i][4] + 1, 4096, 4097}[c.Intn(5)]
	case 5:
		// Meta and Body have other numbers of bytes, but the message, for all that the foot says, ends where it did.
		l[i][2+c.Intn(2)] += []int{-8, -1, 1, 8}[c.Intn(4)]
	default:
		l[i][c.Intn(6)] = []int{0, 1, 8, 65536, 65537, 4194304, 4194305, 1<<32 - 1}[c.Intn(8)]
	}
	return l
}

// hurtBytes does one thing to a file's bytes, wherever it is.
func (c *chance) hurtBytes(b []byte) []byte {
	b = slices.Clone(b)
	switch n := len(b); c.Intn(6) {
	case 0:
		return b[:c.Intn(n+1)]
	case 1:
		return append(b, byte(c.Intn(256)))
	case 2:
		b[c.Intn(n)] ^= byte(1 + c.Intn(255))
	case 3:
		b[n-1-c.Intn(min(n, 40))] ^= byte(1 << c.Intn(8))
	case 4:
		return b[c.Intn(2):]
	}
	return b
}

// file makes the bytes of a file, at times hurt in one or some ways: its messages, its foot, its bytes.
func (c *chance) file(t *testing.T, others [][]byte) (b []byte, messages [][]byte) {
	t.Helper()
	table, extra := c.table(3), c.noise(c.Intn(10))
	b = put(t, table, c.option(), extra)
	l := streamIn(b)
	messages = slices.Clone(l)
	how := c.Intn(8)
	for range how % 3 {
		if len(l) > 0 {
			l = c.hurtMessages(l, others)
		}
	}
	entries := entriesOf(l)
	if how == 3 || how == 4 {
		entries = c.hurtFoot(entries)
	}
	foot := modelFoot(entries, extra)
	if how == 5 {
		foot = append(foot, make([]byte, c.Intn(3))...)
		foot[c.Intn(len(foot))] ^= byte(c.Intn(256))
	}
	b = modelFile(slices.Concat(l...), foot)
	if how > 5 {
		b = c.hurtBytes(b)
	}
	return b, messages
}

// asked asks a file all there is to ask, and holds it against the model.
func asked(t *testing.T, c *chance, f *File, m *model) map[api.Errno]int {
	t.Helper()
	text, seen := printed(m.schema), map[api.Errno]int{}
	if printed(f.Schema()) != text || !bytes.Equal(f.Extra(), m.extra) || f.Len() != len(m.batches) {
		t.Fatalf("%s: the schema %s, %d batches of %d, %d extra bytes", text, printed(f.Schema()), f.Len(), len(m.batches), len(f.Extra()))
	}
	first := -1
	for i := -1; i <= len(m.batches); i++ {
		k, e := f.Block(i)
		if is := i >= 0 && i < len(m.batches); !is && (e != api.ErrRange || k != api.Block{} || f.Rows(i) != 0) {
			t.Fatalf("%s: Block(%d): %+v, %d", text, i, k, e)
		} else if is {
			x := m.entries[m.batches[i]]
			if want := (api.Block{At: x[1], Meta: x[2], Body: x[3], Rows: x[4]}); e != api.OK || k != want || f.Rows(i) != x[4] {
				t.Fatalf("%s: Block(%d): %+v, %d, wanted %+v", text, i, k, e, want)
			}
		}
		want, y := m.batch(i)
		got, x := f.Batch(i)
		if !sameFault(x, y) || !sameBatch(got, want) {
			t.Fatalf("%s: Batch(%d): %+v, wanted %+v", text, i, x, y)
		}
		if x.Err == api.OK {
			ofSchema(t, m.schema, got)
		} else if first < 0 && i >= 0 {
			first = i
		}
		seen[x.Err]++
		columns := c.columns(len(m.schema.Fields))
		want, y = m.some(i, columns)
		if got, x = f.Some(i, columns); !sameFault(x, y) || !sameBatch(got, want) {
			t.Fatalf("%s: Some(%d, %v): %+v, wanted %+v", text, i, columns, x, y)
		}
	}
	if x, y := f.Check(), m.check(); !sameFault(x, y) {
		t.Fatalf("%s: Check: %+v, wanted %+v", text, x, y)
	}
	n := 0
	for i, b := range f.All() {
		if want, x := m.batch(i); i != n || i == first || x.Err != api.OK || !sameBatch(b, want) {
			t.Fatalf("%s: All gives %d, where the first wrong one is %d", text, i, first)
		}
		n++
	}
	if n != first && n != len(m.batches) {
		t.Fatalf("%s: All gives %d batches, where the first wrong one is %d", text, n, first)
	}
	return seen
}

// ofSchema looks whether a batch is of a schema, with dictionaries in build form.
func ofSchema(t *testing.T, s api.Schema, b api.Batch) {
	t.Helper()
	if x := batch.Check(s, b); x.Err != api.OK {
		t.Fatalf("%s: it is no batch: %+v", printed(s), x)
	}
	for k := range b.Columns {
		dictionaries(t, s.Fields[k], b.Columns[k])
	}
}

// dictionaries looks whether all dictionaries within an array are in build form.
func dictionaries(t *testing.T, f api.Field, d api.Data) {
	t.Helper()
	if f.Type.Kind == api.Dict && !build.IsForm(f.Type.Fields[0], d.Dict[0]) {
		t.Fatalf("the dictionary %d is not in build form", f.Type.ID)
	}
	if f.Type.Kind == api.Dict {
		return
	}
	for k, child := range f.Type.Fields {
		dictionaries(t, child, d.Children[len(d.Children)-len(f.Type.Fields)+k])
	}
}

// P13.1, P13.5: of any bytes a file tells what the chapter's words say, and each batch that it tells is one of its schema.
func TestOpenAny(t *testing.T) {
	c := newChance(3)
	places, seen := map[api.Errno]int{}, map[api.Errno]int{}
	others := [][]byte{frame.Close()}
	for range 5000 {
		b, l := c.file(t, others)
		others = l
		m, y := modelOpen(b)
		f, x := Open(b)
		if !sameFault(x, y) || (f == nil) != (m == nil) {
			t.Fatalf("Open of %d bytes: %+v, wanted %+v", len(b), x, y)
		}
		places[x.Err]++
		if f != nil {
			for e, n := range asked(t, c, f, m) {
				seen[e] += n
			}
		}
	}
	for _, e := range []api.Errno{api.OK, api.ErrFoot, api.ErrBlock, api.ErrHead, api.ErrShort, api.ErrForm, api.ErrRest} {
		if places[e] == 0 {
			t.Errorf("Open never tells the error %d", e)
		}
	}
	for _, e := range []api.Errno{api.OK, api.ErrBlock, api.ErrForm, api.ErrShort, api.ErrRest, api.ErrHead, api.ErrUnlike, api.ErrID, api.ErrNoDict, api.ErrUnknown, api.ErrNodes, api.ErrSlots, api.ErrIndex, api.ErrLength} {
		if seen[e] == 0 {
			t.Errorf("Batch never tells the error %d", e)
		}
	}
}

// P13.1: bytes that nobody wrote, and what begins and ends as a file does.
func TestNoise(t *testing.T) {
	c := newChance(4)
	for range 20000 {
		b := make([]byte, c.Intn(100))
		c.Read(b)
		if c.Intn(8) > 0 {
			foot := b[len(b)/2:]
			if len(foot) >= 4 {
				copy(foot, laidNumbers(c.Intn(3)))
			}
			b = modelFile(b[:len(b)/2], foot)
		}
		_, y := modelOpen(b)
		if f, x := Open(b); !sameFault(x, y) || f != nil {
			t.Fatalf("% x: %+v, wanted %+v", b, x, y)
		}
	}
}

// P13.4, W6: with one byte another one Open tells a fault, or each batch is what it was, or a fault, and Check tells one.
func TestOneByte(t *testing.T) {
	c := newChance(5)
	for range 30 {
		table := c.table(2)
		b := put(t, table, c.option(), c.noise(3))
		var was []api.Batch
		for _, x := range opened(t, slices.Clone(b)).All() {
			was = append(was, x)
		}
		for i := range b {
			if len(b) > 1200 && c.Intn(len(b)/1200+1) > 0 {
				continue
			}
			turned := slices.Clone(b)
			turned[i] ^= byte(1 + c.Intn(255))
			f, x := Open(turned)
			if x.Err != api.OK {
				continue
			}
			if x := f.Check(); x.Err == api.OK {
				t.Fatalf("%s: byte %d of %d: no fault", printed(table.Schema), i, len(b))
			}
			for k := range table.Batches {
				if got, x := f.Batch(k); x.Err == api.OK && !sameBatch(got, was[k]) {
					t.Fatalf("%s: byte %d of %d: batch %d is another one", printed(table.Schema), i, len(b), k)
				}
			}
		}
	}
}

// rewrite writes into the bytes of a file that is open: over one of its messages another one of as many bytes, at times with the right sums, at times without.
func (c *chance) rewrite(b []byte, messages [][]byte, was [][]byte) {
	k := c.Intn(len(messages))
	lies := messages[k]
	switch c.Intn(5) {
	case 0:
		copy(lies, was[k])
	case 1:
		lies[c.Intn(len(lies))] ^= byte(1 + c.Intn(255))
	case 2:
		b[c.Intn(len(b))] ^= byte(1 + c.Intn(255))
	case 3:
		if m := c.hurtMessage(was[k]); len(m) == len(lies) {
			copy(lies, m)
		}
	default:
		copy(lies, c.otherValues(was[k]))
	}
}

// otherValues is a message with other bytes in its body, where this makes a message of as many bytes, and its sums are right.
func (c *chance) otherValues(b []byte) []byte {
	f, _ := frame.NewReader(widest)
	f.Feed(b)
	m, how, _ := f.Next()
	if how != frame.One || len(m.Body) == 0 {
		return b
	}
	m.Body[c.Intn(len(m.Body))] ^= byte(1 + c.Intn(3))
	b, _ = frame.Put(m)
	return b
}

// P13.1, P13.5: whoever writes into the bytes writes into the file; what was kept at Open stays.
func TestWrites(t *testing.T) {
	c := newChance(6)
	seen := map[api.Errno]int{}
	for range 1000 {
		b := put(t, c.table(3), c.option(), c.noise(3))
		messages := streamIn(b)
		var was [][]byte
		for _, m := range messages {
			was = append(was, slices.Clone(m))
		}
		f := opened(t, b)
		m, _ := modelOpen(b)
		for range 4 {
			c.rewrite(b, messages, was)
			for e, n := range asked(t, c, f, m) {
				seen[e] += n
			}
		}
	}
	for _, e := range []api.Errno{api.OK, api.ErrBlock, api.ErrForm, api.ErrUnlike, api.ErrSlots, api.ErrIndex, api.ErrLength} {
		if seen[e] == 0 {
			t.Errorf("the error %d is never told", e)
		}
	}
}

// P13.1: likewise while All is gone through: each batch is the one that Batch tells then.
func TestWritesWithin(t *testing.T) {
	c := newChance(7)
	ended, given := 0, 0
	for range 2500 {
		b := put(t, c.table(3), c.option(), nil)
		messages := streamIn(b)
		var was [][]byte
		for _, m := range messages {
			was = append(was, slices.Clone(m))
		}
		f := opened(t, b)
		m, _ := modelOpen(b)
		next := 0
		for i, got := range f.All() {
			if want, x := m.batch(i); i != next || x.Err != api.OK || !sameBatch(got, want) {
				t.Fatalf("%s: batch %d: %+v", printed(m.schema), i, x)
			}
			next++
			if c.Intn(3) > 0 {
				c.rewrite(b, messages, was)
			}
		}
		if _, x := m.batch(next); x.Err == api.OK {
			t.Fatalf("%s: it gives up at batch %d", printed(m.schema), next)
		}
		if next < f.Len() {
			ended++
		}
		given += next
	}
	if ended < 100 || given < 3000 {
		t.Errorf("%d were left early, %d batches were given", ended, given)
	}
}

// P13.1: All may be left early, gone through again, and within itself.
func TestAll(t *testing.T) {
	table := tableOf(t, "d dict(0, uint8, w text)", []string{`"x"`}, []string{`"y"`}, []string{`"x"`, `"z"`})
	f := opened(t, put(t, table, api.Option{Delta: true}, nil))
	all := f.All()
	if all == nil {
		t.Fatal("All: nil")
	}
	var l []string
	for i, b := range all {
		for k, d := range all {
			l = append(l, texts(t, f, d)[0])
			if k == i {
				break
			}
		}
		if l = append(l, texts(t, f, b)...); i == 1 {
			break
		}
	}
	if want := []string{`"x"`, `"x"`, `"x"`, `"y"`, `"y"`}; !slices.Equal(l, want) {
		t.Errorf("%v, wanted %v", l, want)
	}
	n := 0
	for i, b := range all {
		if i != n || !sameForms(table.Schema, b, table.Batches[i]) {
			t.Errorf("again: batch %d", i)
		}
		n++
	}
	if n != 3 {
		t.Errorf("again: %d batches", n)
	}
}

// dictsIn tells the numbers of a schema's dictionaries.
func dictsIn(s api.Schema) []int {
	var l []int
	for _, f := range kind.Walk(s) {
		if f.Type.Kind == api.Dict {
			l = append(l, f.Type.ID)
		}
	}
	return l
}

// The tables that are made by chance have dictionaries, told anew and by what is new, and batches of all presses.
func TestChances(t *testing.T) {
	c := newChance(8)
	deltas, anews, dicts, packed := 0, 0, 0, 0
	for range 300 {
		table, o := c.table(4), c.option()
		dicts += len(dictsIn(table.Schema))
		if o.Press > 0 {
			packed++
		}
		for _, b := range streamIn(put(t, table, o, nil)) {
			h, x := meta.Get(b[24 : 24+numberAt(b, 4)])
			if x.Err == api.OK && h.Kind == api.HeadDict && h.Delta {
				deltas++
			} else if x.Err == api.OK && h.Kind == api.HeadDict {
				anews++
			}
		}
	}
	if deltas < 30 || anews < 100 || dicts < 200 || packed < 100 {
		t.Errorf("%d dictionaries, %d told by what is new, %d told anew; %d tables packed", dicts, deltas, anews, packed)
	}
}
