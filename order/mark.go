package order

import (
	"slices"

	"colonnade/api"
	"colonnade/build"
)

// A row's mark is the values of its keys' columns, laid as bytes so that marks stand in the order of their rows, byte by byte; alike rows have the same mark. Two marks are held against each other no further than they are the same: so a heavy value costs little, however often it is met, where value.Compare would look through it whole each time.

// What a value's bytes begin with. A list that has ended stands ahead of one that goes on, whatever its next item is.
const (
	ended = iota
	isNull
	isValue
	isNullLast
)

// signBit is the highest bit of a number.
const signBit = 1 << 63

// marksOfOne tells the marks of a batch's rows.
func marksOfOne(s api.Schema, b api.Batch, keys []api.Key) ([]string, api.Errno) {
	marks, e := marksOf(s, []api.Batch{b}, keys)
	if e != api.OK {
		return nil, e
	}
	return marks[0], api.OK
}

// marksOf tells the marks of each batch's rows. Keys that may not be are told behind all batches.
func marksOf(s api.Schema, l []api.Batch, keys []api.Key) ([][]string, api.Errno) {
	right := mayBe(s, keys)
	marks := make([][]string, len(l))
	for k, b := range l {
		rows, e := build.Rows(s, b)
		if e != api.OK {
			return nil, e
		}
		if right {
			marks[k] = marksOfRows(s, rows, keys)
		}
	}
	if !right {
		return nil, api.ErrKey
	}
	return marks, api.OK
}

// mayBe tells whether keys may be.
func mayBe(s api.Schema, keys []api.Key) bool {
	if len(keys) > api.MaxKeys {
		return false
	}
	for i, key := range keys {
		isSame := func(k api.Key) bool { return k.Column == key.Column }
		if key.Column < 0 || key.Column >= len(s.Fields) || slices.ContainsFunc(keys[:i], isSame) {
			return false
		}
	}
	return true
}

// marksOfRows tells the marks of rows by keys that may be. Neighbours that are alike share one, as of rows in order many may be.
func marksOfRows(s api.Schema, rows [][]api.Value, keys []api.Key) []string {
	marks := make([]string, len(rows))
	var b []byte
	for i, row := range rows {
		b = b[:0]
		for _, key := range keys {
			b = layKey(b, s.Fields[key.Column].Type, key, row[key.Column])
		}
		if i > 0 && string(b) == marks[i-1] {
			marks[i] = marks[i-1]
		} else {
			marks[i] = string(b)
		}
	}
	return marks
}

// layKey lays a key's value behind b. If it is Down the bytes of what isn't null are turned: as none of them is the beginning of others, that turns their order.
func layKey(b []byte, t api.Type, key api.Key, v api.Value) []byte {
	if v.Null && key.Last {
		return append(b, isNullLast)
	}
	if v.Null {
		return append(b, isNull)
	}
	from := len(b) + 1
	b = layWhole(append(b, isValue), t, v)
	for i := from; key.Down && i < len(b); i++ {
		b[i] ^= 0xff
	}
	return b
}

// lay lays a value behind b.
func lay(b []byte, t api.Type, v api.Value) []byte {
	if v.Null {
		return append(b, isNull)
	}
	return layWhole(append(b, isValue), t, v)
}

// layWhole lays a value that isn't null behind b.
func layWhole(b []byte, t api.Type, v api.Value) []byte {
	switch t.Kind {
	case api.Text, api.Bytes, api.Fixed:
		return layText(b, v.Text)
	case api.List, api.Span:
		for _, x := range v.List {
			b = lay(b, t.Fields[0].Type, x)
		}
		return append(b, ended)
	case api.Struct:
		for k, x := range v.List {
			b = lay(b, t.Fields[k].Type, x)
		}
		return b
	case api.Choice:
		return lay(append(b, byte(v.Num)), t.Fields[v.Num].Type, v.List[0])
	case api.Dict, api.Runs:
		return layWhole(b, t.Fields[0].Type, v)
	}
	return layNumber(b, rising(t.Kind, v.Num))
}

// layText lays a text behind b. Two bytes 0 end it; a byte 0 of its own has a ff behind it, so that a text that has ended stands ahead of those that go on.
func layText(b []byte, text string) []byte {
	for i := range len(text) {
		b = append(b, text[i])
		if text[i] == 0 {
			b = append(b, 0xff)
		}
	}
	return append(b, 0, 0)
}

// layNumber lays a number behind b, its highest byte first: so the bytes rise as the numbers do.
func layNumber(b []byte, n uint64) []byte {
	for shift := 56; shift >= 0; shift -= 8 {
		b = append(b, byte(n>>shift))
	}
	return b
}

// rising tells a number without a sign that rises as a kind's numbers do: of floating-point ones with the sign bit all bits are turned, as these fall where the bits rise.
func rising(k int, n int64) uint64 {
	switch {
	case k == api.Uint64:
		return uint64(n)
	case k == api.Float64 && n < 0:
		return ^uint64(n)
	}
	return uint64(n) ^ signBit
}
