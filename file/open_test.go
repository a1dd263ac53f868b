package file

import (
	"bytes"
	"slices"
	"testing"

	"colonnade/api"
	"colonnade/frame"
	"colonnade/meta"
)

// refused looks whether Open tells just this fault.
func refused(t testing.TB, what string, b []byte, e api.Errno, at int) {
	t.Helper()
	if f, x := Open(b); f != nil || !isFault(x, e, at) {
		t.Errorf("%s: %+v, wanted %d at %d", what, x, e, at)
	}
}

// parts are those of the chapter's small file: its messages with the end, and its entries.
func parts(t testing.TB) ([][]byte, [][6]int) {
	t.Helper()
	l := streamIn(put(t, small(t), api.Option{}, nil))
	return l, entriesOf(l)
}

// P13.1, 2: what is too short, and the mark at the beginning.
func TestBeginning(t *testing.T) {
	b := put(t, small(t), api.Option{}, nil)
	least := slices.Concat([]byte(mark), laidNumbers(8, 1<<32-9, 0), []byte(mark))
	for n := range 28 {
		refused(t, "too short", least[:n], api.ErrFoot, 0)
		refused(t, "too short", least[28-n:], api.ErrFoot, 0)
	}
	refused(t, "28 bytes", least, api.ErrFoot, 8)
	for i := range 8 {
		x := slices.Clone(b)
		x[i] ^= 0x20
		refused(t, "another mark", x, api.ErrFoot, 0)
		x[len(x)-1-i] ^= 1
		refused(t, "two other marks", x, api.ErrFoot, 0)
		x[i] ^= 0x20
		refused(t, "another mark at the end", x, api.ErrFoot, len(b)-20)
	}
	refused(t, "a byte behind it", append(slices.Clone(b), 0), api.ErrFoot, len(b)-19)
	refused(t, "a byte ahead of it", append([]byte{0}, b...), api.ErrFoot, 0)
}

// withTail is bytes with another tail behind them, whose mark is right.
func withTail(b []byte, numbers ...int) []byte {
	return slices.Concat(b, laidNumbers(numbers...), []byte(mark))
}

// P13.1, 2: the tail's numbers.
func TestTail(t *testing.T) {
	b := put(t, small(t), api.Option{}, nil)
	ahead := b[:len(b)-20]
	tail := len(ahead)
	right := numberAt(b, tail+8)
	opened(t, withTail(ahead, 80, 1<<32-81, right))
	refused(t, "not 2^32 - 1 - L", withTail(ahead, 80, 1<<32-80, right), api.ErrFoot, tail)
	refused(t, "not 2^32 - 1 - L", withTail(ahead, 80, 80, right), api.ErrFoot, tail)
	refused(t, "another sum", withTail(ahead, 80, 1<<32-81, right+1), api.ErrFoot, tail)
	sumOf := func(n int) int { return sum(ahead[tail-n:]) }
	for _, n := range []int{0, 1, 4, 7} {
		refused(t, "L below 8", withTail(ahead, n, 1<<32-1-n, sumOf(n)), api.ErrFoot, tail)
	}
	for _, n := range []int{tail - 7, tail, 1<<31 - 1, 1 << 31, 1<<32 - 1} {
		refused(t, "L too great", withTail(ahead, n, 1<<32-1-n, sumOf(min(n, tail))), api.ErrFoot, tail)
	}
	// Up to the mark at the beginning it may be a foot, by what the tail says.
	refused(t, "all of it a foot", withTail(ahead, tail-8, 1<<32-1-(tail-8), sumOf(tail-8)), api.ErrFoot, 8)
	refused(t, "a short foot, which has no entries", withTail(ahead, 8, 1<<32-9, sumOf(8)), api.ErrBlock, 0)
	for i := range 80 {
		x := slices.Clone(b)
		x[tail-80+i] ^= 1
		refused(t, "a byte of the foot", x, api.ErrFoot, tail)
	}
	// The sum is chapter 7's: of no bytes, and of those that stand in a message.
	if sum(nil) != 2166136261 {
		t.Errorf("the sum of nothing: %d", sum(nil))
	}
	m, _ := frame.Put(api.Message{Body: ahead})
	if sum(ahead) != numberAt(m, 16) {
		t.Errorf("the sum: %d, wanted %d", sum(ahead), numberAt(m, 16))
	}
}

// P13.1, 3: a foot that has not just the bytes that its numbers say, whatever its entries are.
func TestFoot(t *testing.T) {
	l, entries := parts(t)
	inner := slices.Concat(l...)
	at := 8 + len(inner)
	foot := modelFoot(entries, []byte("more"))
	opened(t, modelFile(inner, foot))
	for what, x := range map[string][]byte{
		"a byte more":            append(slices.Clone(foot), 0),
		"a byte less":            foot[:len(foot)-1],
		"no extra bytes":         foot[:len(foot)-4],
		"no number of them":      foot[:len(foot)-8],
		"one entry less":         slices.Concat(laidNumbers(2), foot[4:]),
		"one entry more":         slices.Concat(laidNumbers(4), foot[4:]),
		"many entries":           slices.Concat(laidNumbers(1<<32-1), foot[4:]),
		"as many as wrap round":  slices.Concat(laidNumbers(1<<29+3), foot[4:]),
		"an extra byte more":     slices.Concat(foot[:76], laidNumbers(5), foot[80:]),
		"an extra byte less":     slices.Concat(foot[:76], laidNumbers(3), foot[80:]),
		"extra bytes that wrap":  slices.Concat(foot[:76], laidNumbers(1<<32-1), foot[80:]),
		"too many extra bytes":   modelFoot(entries, make([]byte, 65537)),
		"wrong entries besides":  modelFoot([][6]int{{9, 9, 9, 9, 9, 9}}, make([]byte, 65537)),
		"no entries, and a byte": slices.Concat(laidNumbers(0, 0), []byte{0}),
		"no number at the end":   laidNumbers(1, 1, 8),
	} {
		refused(t, what, modelFile(inner, x), api.ErrFoot, at)
	}
	if f := opened(t, modelFile(inner, modelFoot(entries, make([]byte, 65536)))); len(f.Extra()) != 65536 {
		t.Errorf("as many extra bytes as may be: %d", len(f.Extra()))
	}
}

// P13.1, 4: which entries fit: each number of each entry, and which entry is told.
func TestEntries(t *testing.T) {
	l, entries := parts(t)
	inner := slices.Concat(l...)
	for _, c := range []struct{ entry, number, n, at int }{
		{0, 0, 0, 0}, {0, 0, 2, 0}, {0, 0, 3, 0}, {0, 0, 4, 0}, {0, 0, 1<<32 - 1, 0},
		{0, 1, 0, 0}, {0, 1, 7, 0}, {0, 1, 16, 0},
		{0, 2, 65537, 0}, {0, 2, 65536, 1}, {0, 2, 17, 1}, {0, 2, 8, 1}, {0, 2, 1<<32 - 1, 0},
		{0, 3, 4194305, 0}, {0, 3, 4194304, 1}, {0, 3, 1, 1},
		{0, 4, 1, 0}, {0, 4, 4097, 0}, {0, 5, 1, 0}, {0, 5, 1 << 31, 0},
		{1, 0, 0, 1}, {1, 0, 1, 1}, {1, 0, 2, 1}, {1, 0, 4, 1}, {1, 0, 1 << 8, 1}, {1, 0, 256 + 3, 1},
		{1, 1, 0, 1}, {1, 1, 40, 1}, {1, 1, 56, 1}, {1, 1, 49, 1},
		{1, 2, 65537, 1}, {1, 2, 65536, 2}, {1, 3, 4194305, 1}, {1, 3, 4194304, 2}, {1, 3, 9, 2}, {1, 3, 0, 2},
		{1, 4, 4097, 1}, {1, 4, 1<<32 - 1, 1}, {1, 5, 3, 1},
		{2, 0, 1, 2}, {2, 0, 5, 2}, {2, 1, 8, 2}, {2, 2, 65537, 2}, {2, 3, 4194305, 2}, {2, 4, 4097, 2}, {2, 5, 1, 2},
		{2, 2, 65536, 3}, {2, 3, 4194304, 3}, {2, 3, 9, 3}, {2, 3, 0, 3}, {2, 2, 0, 3},
	} {
		x := slices.Clone(entries)
		x[c.entry][c.number] = c.n
		refused(t, "an entry", modelFile(inner, modelFoot(x, nil)), api.ErrBlock, c.at)
	}
	for _, rows := range []int{0, 4096} { // they fit, but are not the batch's
		x := slices.Clone(entries)
		x[1][4] = rows
		f := opened(t, modelFile(inner, modelFoot(x, nil)))
		if _, y := f.Batch(0); !isFault(y, api.ErrUnlike, 1) || f.Rows(0) != rows {
			t.Errorf("%d rows: %+v", rows, y)
		}
	}
	// An entry of a batch may say that it is a dictionary's, and the other way round: that is told when it is read.
	x := slices.Clone(entries)
	x[1][0], x[1][4] = 2, 0
	f := opened(t, modelFile(inner, modelFoot(x, nil)))
	if _, y := f.Batch(0); !isFault(y, api.ErrForm, 1) || f.Len() != 1 {
		t.Errorf("a batch as a dictionary: %+v", y)
	}
}

// P13.1, 4: no entries; an entry left out; which one is told, where two do not fit.
func TestEntriesWhich(t *testing.T) {
	l, entries := parts(t)
	inner := slices.Concat(l...)
	refused(t, "no entries", modelFile(inner, modelFoot(nil, nil)), api.ErrBlock, 0)
	refused(t, "no entries and no messages", modelFile(frame.Close(), modelFoot(nil, nil)), api.ErrBlock, 0)
	refused(t, "nothing at all", modelFile(nil, modelFoot(nil, nil)), api.ErrBlock, 0)
	refused(t, "the last one left out", modelFile(inner, modelFoot(entries[:2], nil)), api.ErrBlock, 2)
	refused(t, "the second one left out", modelFile(inner, modelFoot([][6]int{entries[0], entries[2]}, nil)), api.ErrBlock, 1)
	refused(t, "the first one left out", modelFile(inner, modelFoot(entries[1:], nil)), api.ErrBlock, 0)
	refused(t, "one twice", modelFile(inner, modelFoot([][6]int{entries[0], entries[1], entries[1], entries[2]}, nil)), api.ErrBlock, 2)
	refused(t, "no stream", modelFile(nil, modelFoot(entries, nil)), api.ErrBlock, 3)
	x := slices.Clone(entries)
	x[1][5], x[2][5] = 1, 1
	refused(t, "two", modelFile(inner, modelFoot(x, nil)), api.ErrBlock, 1)
	x = slices.Clone(entries)
	x[2][5] = 1
	refused(t, "the last one, and no end", modelFile(inner[:len(inner)-24], modelFoot(x, nil)), api.ErrBlock, 2)
	// What the foot says is looked at ahead of the schema's message.
	hurt := slices.Clone(inner)
	hurt[0] ^= 1
	refused(t, "an entry and the schema's message", modelFile(hurt, modelFoot(x, nil)), api.ErrBlock, 2)
	refused(t, "the schema's message alone", modelFile(hurt, modelFoot(entries, nil)), api.ErrBlock, 0)
}

// P13.1, 4: behind the last message there is the end, and nothing but it.
func TestEnd(t *testing.T) {
	l, entries := parts(t)
	foot := modelFoot(entries, nil)
	ahead := slices.Concat(l[:3]...)
	end := frame.Close()
	for _, x := range [][]byte{nil, end[:23], end[1:], append(slices.Clone(end), 0), append([]byte{0}, end...), slices.Concat(end, end), make([]byte, 24), l[1], bytes.Repeat([]byte{7}, 8)} {
		refused(t, "another end", modelFile(slices.Concat(ahead, x), foot), api.ErrBlock, 3)
	}
	for i := range end {
		x := slices.Clone(end)
		x[i] ^= 1
		refused(t, "a byte of the end", modelFile(slices.Concat(ahead, x), foot), api.ErrBlock, 3)
	}
	opened(t, modelFile(slices.Concat(ahead, end), foot))
}

// P13.1, 4: as many batches as may be; the entry of one more does not fit, wherever the dictionaries stand.
func TestMostEntries(t *testing.T) {
	table := tableOf(t, "d dict(0, int8, w text)", []string{`"x"`})
	l := streamIn(put(t, table, api.Option{}, nil))
	messages := [][]byte{l[0]}
	for range 256 {
		messages = append(messages, l[1], l[2])
	}
	f := opened(t, whole(append(slices.Clip(messages), l[1], l[3]), nil))
	if x := f.Check(); f.Len() != 256 || x.Err != api.OK {
		t.Errorf("%d batches: %+v", f.Len(), x)
	}
	tells(t, f, 255, `"x"`)
	refused(t, "one batch more", whole(append(slices.Clip(messages), l[2], l[3]), nil), api.ErrBlock, 513)
	refused(t, "a dictionary and one batch more", whole(append(slices.Clip(messages), l[1], l[2], l[2], l[3]), nil), api.ErrBlock, 514)
}

// P13.1, 4: entries whose places would be beyond what four bytes can say: a number that has wrapped round is no place.
func TestPlacesWrap(t *testing.T) {
	entries := [][6]int{{1, 8, 0, 0, 0, 0}}
	at := 32
	for at < 1<<32 {
		entries = append(entries, [6]int{2, at, 65536, 4194304, 0, 0})
		at += 24 + 65536 + 4194304
	}
	n := len(entries)
	refused(t, "beyond the foot", modelFile(frame.Close(), modelFoot(entries, nil)), api.ErrBlock, n)
	entries = append(entries, [6]int{2, at & (1<<32 - 1), 0, 0, 0, 0})
	refused(t, "round", modelFile(frame.Close(), modelFoot(entries, nil)), api.ErrBlock, n)
}

// framedAs is the message of metadata and a body.
func framedAs(t testing.TB, metadata, body []byte) []byte {
	t.Helper()
	b, e := frame.Put(api.Message{Meta: metadata, Body: body})
	if e != api.OK {
		t.Fatal(e)
	}
	return b
}

// headOf is the bytes of a head.
func headOf(t testing.TB, h api.Head) []byte {
	t.Helper()
	b, e := meta.Put(h)
	if e != api.OK {
		t.Fatal(e)
	}
	return b
}

// P13.1, 5: what reading the schema's entry tells, At 0, wherever meta.Get says that it is.
func TestSchemaEntry(t *testing.T) {
	right := headOf(t, api.Head{Kind: api.HeadSchema, Schema: schema(t, "a int8, b text")})
	one := func(metadata, body []byte) []byte {
		m := framedAs(t, metadata, body)
		entry := [6]int{1, 8, len(metadata), len(body), 0, 0}
		return modelFile(slices.Concat(m, frame.Close()), modelFoot([][6]int{entry}, nil))
	}
	if f := opened(t, one(right, nil)); printed(f.Schema()) != "a int8, b text" {
		t.Errorf("the schema: %s", printed(f.Schema()))
	}
	twice := bytes.Replace(right, []byte("b"), []byte("a"), 1)
	for _, c := range []struct {
		what           string
		metadata, body []byte
		e              api.Errno
	}{
		{"no metadata", nil, nil, api.ErrShort},
		{"cut metadata", right[:len(right)-1], nil, api.ErrShort},
		{"more metadata", append(slices.Clone(right), 0), nil, api.ErrRest},
		{"no form", []byte{1, 2, 0, 0}, nil, api.ErrForm},
		{"a schema that may not be", twice, nil, api.ErrHead},
		{"a schema that may not be, and a body", twice, []byte{0}, api.ErrHead},
		{"a body", right, []byte{0}, api.ErrForm},
		{"a batch's head", headOf(t, api.Head{Kind: api.HeadBatch}), nil, api.ErrForm},
		{"a dictionary's head", headOf(t, api.Head{Kind: api.HeadDict}), nil, api.ErrForm},
	} {
		refused(t, c.what, one(c.metadata, c.body), c.e, 0)
	}
	// The message's own bytes: each of them, and lengths that are not the entry's.
	b := one(right, nil)
	for i := 8; i < len(b)-20-32-24; i++ {
		x := slices.Clone(b)
		x[i] ^= 1
		refused(t, "a byte of the message", x, api.ErrBlock, 0)
	}
	m := framedAs(t, right[:len(right)-1], nil)
	entry := [6]int{1, 8, len(right), 0, 0, 0}
	refused(t, "another length", modelFile(slices.Concat(m, frame.Close()), modelFoot([][6]int{entry}, nil)), api.ErrBlock, 0)
	// Metadata of 16 bytes, or of 8 and a body of 8, lie alike.
	m = framedAs(t, right[:8], right[8:16])
	entry = [6]int{1, 8, 16, 0, 0, 0}
	refused(t, "a part of it a body", modelFile(slices.Concat(m, frame.Close()), modelFoot([][6]int{entry}, nil)), api.ErrBlock, 0)
	refused(t, "the end's mark", modelFile(slices.Concat(frame.Close(), frame.Close()), modelFoot([][6]int{{1, 8, 0, 0, 0, 0}}, nil)), api.ErrBlock, 0)
}
