package meta

import (
	"bytes"
	"slices"
	"strings"
	"testing"

	"colonnade/api"
)

// P5.2: the place of each thing that is not all there, or that has not the form.
func TestGetPlaces(t *testing.T) {
	for _, x := range []struct {
		b  string
		e  api.Errno
		at int
	}{
		{"00", api.ErrForm, 0},
		{"FF", api.ErrForm, 0},
		{"03 00", api.ErrForm, 1},
		{"01 01 05", api.ErrForm, 2},
		{"01 01 00 05", api.ErrForm, 3},
		{"01 01 05 05", api.ErrForm, 2},
		{"04 02 05", api.ErrForm, 0},
		{"01 01", api.ErrShort, 2},
		{"01 01 00 00", api.ErrShort, 4},
		{"01 01 00 00, 01 00", api.ErrShort, 6},
		{"01 01 00 00, 01 00, 00", api.ErrShort, 7},
		{"01 01 00 00, 01 00, 02 61 62", api.ErrShort, 9},
		{"01 01 00 00, 01 00, 03 61 62", api.ErrShort, 7},
		{"01 01 00 00, 01 00, 01 61 01", api.ErrShort, 9},
		{"01 01 00 00, 01 00, 01 61 FF", api.ErrForm, 8},
		{"01 01 00 00, 01 00, 01 61 00 00", api.ErrForm, 9},
		{"01 01 00 00, 01 00, 01 61 00 15", api.ErrForm, 9},
		{"01 01 00 00, 01 00, 01 61 00 0E", api.ErrShort, 10},
		{"01 01 00 00, 01 00, 01 61 00 0E 01", api.ErrShort, 10},
		{"01 01 00 00, 01 00, 01 61 00 10 01", api.ErrShort, 10},
		{"01 01 00 00, 01 00, 01 61 00 10 01 00", api.ErrShort, 12},
		{"01 01 00 00, 01 00, 01 61 00 13 01", api.ErrShort, 10},
		{"01 01 00 00, 01 00, 01 61 00 13 01 00", api.ErrShort, 12},
		{"01 01 00 00, 01 00, 01 61 00 13 01 00 07", api.ErrShort, 13},
		{"01 01 00 00, 01 00, 01 61 00 11", api.ErrShort, 10},
		{"01 01 00 00, 01 00, 01 61 00 12 01", api.ErrShort, 11},
		{"01 01 00 00, 01 00, 01 61 00 14", api.ErrShort, 10},
		{"01 01 00 00, 01 00, 01 61 00 0F, 01 62 02", api.ErrForm, 12},
		{"01 01 00 00, 02 00, 01 61 00 06", api.ErrShort, 10},
		{"01 01 00 00, 01 00, 01 61 00 06, 01", api.ErrShort, 10},
		{"01 01 00 00, 00 00, 01 00", api.ErrShort, 8},
		{"01 01 00 00, 00 00, 01 00, 02", api.ErrShort, 8},
		{"01 01 00 00, 00 00, 01 00, 02 00 6B", api.ErrShort, 10},
		{"01 01 00 00, 00 00, 01 00, 01 00 6B", api.ErrShort, 11},
		{"01 01 00 00, 00 00, 01 00, 01 00 6B 01 00", api.ErrShort, 13},
		{"02 01 00 00, 01", api.ErrShort, 4},
		{"02 01 00 00, 01 00", api.ErrShort, 6},
		{"02 01 00 00, 01 00, 02", api.ErrForm, 6},
		{"02 01 00 00, 01 00, 01, 00 00 00", api.ErrShort, 7},
		{"03 01 00 00, 02 00 00", api.ErrShort, 4},
		{"03 01 00 00, 02 00 00 00", api.ErrShort, 8},
		{"03 01 00 00, 02 00 00 00, 00, 01", api.ErrShort, 9},
		{"03 01 00 00, 02 00 00 00, 00, 01 00, 00 00 00", api.ErrShort, 11},
		{"03 01 00 00, 02 00 00 00, 00, 01 00, 00 00 00 00, 00 00 00", api.ErrShort, 15},
		{"03 01 00 00, 02 00 00 00, 00, 00 00", api.ErrShort, 11},
		{"03 01 00 00, 02 00 00 00, 00, 00 00, 01 00", api.ErrShort, 13},
		{"03 01 00 00, 02 00 00 00, 00, 00 00, 01 00, 00 00 00 00, 00 00 00 00, 00", api.ErrShort, 21},
	} {
		b := base16(t, x.b)
		faulty(t, b, x.e, x.at)
		asModel(t, b)
	}
}

// wholeButNot is bytes that have the form, of a head that may not be.
func wholeButNot() []string {
	return []string{
		"01 01 00 00, 01 00, 00 00 06, 00 00",                              // no name
		"01 01 00 00, 01 00, 01 39 00 06, 00 00",                           // the name 9
		"01 01 00 00, 01 00, 31" + strings.Repeat("61", 49) + "0006, 0000", // a name of 49 bytes
		"01 01 00 00, 02 00, 01 61 00 06, 01 61 00 06, 00 00",              // a name twice
		"01 01 00 00, 01 00, 01 61 00 0E 00 00, 00 00",                     // fixed(0)
		"01 01 00 00, 01 00, 01 61 00 0E 11 00, 00 00",                     // fixed(17)
		"01 01 00 00, 01 00, 01 61 00 0E 01 01, 00 00",                     // fixed(257)
		"01 01 00 00, 01 00, 01 61 00 10 41 00, 01 62 00 06, 00 00",        // span(65, ..)
		"01 01 00 00, 01 00, 01 61 00 12 00, 00 00",                        // a choice of none
		"01 01 00 00, 01 00, 01 61 01 12 01, 01 62 00 06, 00 00",           // a choice that may be null
		"01 01 00 00, 01 00, 01 61 01 14, 01 62 00 06, 00 00",              // runs that may be null
		"01 01 00 00, 01 00, 01 61 00 13 20 00 07, 01 62 00 06, 00 00",     // dict(32, ..)
		"01 01 00 00, 01 00, 01 61 00 13 00 01 07, 01 62 00 06, 00 00",     // dict(256, ..)
		"01 01 00 00, 01 00, 01 61 00 13 00 00 02, 01 62 00 06, 00 00",     // indices of kind Bool
		"01 01 00 00, 01 00, 01 61 00 13 00 00 FF, 01 62 00 06, 00 00",     // of no kind
		"01 01 00 00, 01 00, 01 61 00 13 00 00 07, 01 62 01 06, 00 00",     // a dictionary of nulls
		"01 01 00 00, 00 00, 11 00" + strings.Repeat("00", 17*4),           // 17 notes
		"01 01 00 00, 00 00, 01 00, 01 01" + strings.Repeat("6B", 257) + "0000",
		"03 01 00 00, 01 10 00 00, 00, 00 00, 00 00",                          // 4097 rows
		"03 01 00 00, FF FF FF FF, 00, 00 00, 00 00",                          // no number has a sign
		"03 01 00 00, 00 00 00 00, 03, 00 00, 00 00",                          // Press 3
		"03 01 00 00, 00 00 00 00, FF, 00 00, 00 00",                          // Press 255
		"03 01 00 00, 00 00 00 00, 00, 01 00, 01 10 00 00 00 00 00 00, 00 00", // a Length of 4097
		"03 01 00 00, 00 00 00 00, 00, 01 00, 01 00 00 00 02 00 00 00, 00 00", // Nulls above it
		"03 01 00 00, 00 00 00 00, 00, 00 00, 01 00, 01 00 40 00" + strings.Repeat("00", 8),
		"03 01 00 00, 00 00 00 00, 00, 00 00, 01 00, 00 00 00 00 01 00 40 00 00 00 00 00",
		"03 01 00 00, 00 00 00 00, 00, 00 00, 01 00, 00 00 00 00 00 00 00 00 FF FF FF FF",
		"02 01 00 00, 20 00, 00, 00 00 00 00, 00, 00 00, 00 00", // dictionary 32
		"02 01 00 00, 00 01, 01, 00 00 00 00, 00, 00 00, 00 00", // dictionary 256
	}
}

// P5.2: what has the form is read to its end ahead of all asking what may be, and what stands behind it is told first.
func TestGetWholeButNot(t *testing.T) {
	for _, text := range wholeButNot() {
		b := base16(t, text)
		faulty(t, b, api.ErrHead, 0)
		for n := range len(b) {
			faulty(t, b[:n], api.ErrShort, shortAt(t, b[:n]))
		}
		faulty(t, append(bytes.Clone(b), 0), api.ErrRest, len(b))
	}
}

// shortAt is the place that the model tells.
func shortAt(t *testing.T, b []byte) int {
	t.Helper()
	_, x := modelGet(b)
	return x.At
}

// P5.2: numbers beyond the limits are read, as far as there are bytes.
func TestGetManyThings(t *testing.T) {
	for _, n := range []int{512, 513, 65535} {
		for _, m := range []int{1536, 1537, 65535} {
			h := api.Head{Kind: api.HeadBatch, Nodes: make([]api.Node, n), Slots: make([]api.Slot, m)}
			b := modelPut(h)
			if n == 512 && m == 1536 {
				laid(t, h, b)
				continue
			}
			faulty(t, b, api.ErrHead, 0)
			faulty(t, b[:len(b)-1], api.ErrShort, len(b)-4)
			faulty(t, append(b, 7), api.ErrRest, len(b))
		}
	}
	h := ofSchema(api.Schema{Notes: longNotes(65535, 0, 1)})
	faulty(t, modelPut(h), api.ErrHead, 0)
	h = ofSchema(api.Schema{Notes: longNotes(2, 65535, 65535)})
	faulty(t, modelPut(h), api.ErrHead, 0)
}

// P5.2: the 257th field is told where it begins, ahead of its bytes.
func TestGetManyFields(t *testing.T) {
	b := modelPut(ofSchema(api.Schema{Fields: crowd(257)}))
	at := len(modelPut(ofSchema(api.Schema{Fields: crowd(256)}))) - 2
	faulty(t, b, api.ErrHead, at)
	faulty(t, b[:at], api.ErrHead, at)
	faulty(t, b[:at+1], api.ErrHead, at)
	faulty(t, b[:at-1], api.ErrShort, at-1)
	faulty(t, append(bytes.Clone(b[:at]), 255, 255, 255), api.ErrHead, at)

	beside := modelPut(ofSchema(api.Schema{Fields: slices.Repeat([]api.Field{field("a", api.Int8)}, 65535)}))
	faulty(t, beside, api.ErrHead, 6+256*4)
	faulty(t, beside[:6+256*4-1], api.ErrShort, 6+256*4-1)
	within := modelPut(ofSchema(api.Schema{Fields: []api.Field{field("s", api.Struct, slices.Repeat([]api.Field{field("a", api.Int8)}, 255)...), field("z", api.Text)}}))
	faulty(t, within, api.ErrHead, 6+5+255*4)
	within = modelPut(ofSchema(api.Schema{Fields: []api.Field{field("s", api.Struct, slices.Repeat([]api.Field{field("a", api.Int8)}, 255)...)}}))
	faulty(t, within, api.ErrHead, 0)
}

// P5.2: a field of the level 65 is told where it begins, ahead of its bytes.
func TestGetDeep(t *testing.T) {
	at := 6 + 64*4
	b := modelPut(ofSchema(api.Schema{Fields: []api.Field{chain(65)}}))
	faulty(t, b, api.ErrHead, at)
	faulty(t, b[:at], api.ErrHead, at)
	faulty(t, b[:at-1], api.ErrShort, at-1)
	faulty(t, append(bytes.Clone(b[:at]), 255, 255), api.ErrHead, at)
	without := bytes.Clone(b[:at])
	without[at-1] = api.Int8
	laid(t, ofSchema(api.Schema{Fields: []api.Field{chain(64)}}), append(without, 0, 0))
	without[at-1] = api.Struct
	faulty(t, append(bytes.Clone(without), 1), api.ErrHead, at+1)
	asModel(t, append(without, 0, 0, 0))
	behind := modelPut(ofSchema(api.Schema{Fields: []api.Field{field("f", api.Text), field("c", api.Choice, field("b", api.Bool), chain(64))}}))
	faulty(t, behind, api.ErrHead, 6+4+5+4+63*4)
	endless := append(base16(t, "01 01 00 00, 01 00"), bytes.Repeat([]byte{1, 'a', 0, api.Runs}, 100000)...)
	faulty(t, endless, api.ErrHead, at)
}

// P5.2, P5.3: bytes of which a few are others, or are left out, or come twice, against the model.
func TestGetModel(t *testing.T) {
	c := newChance(5)
	told := map[api.Errno]int{}
	for range 4000 {
		b, _ := Put(c.head(t))
		for range 10 {
			h := bytes.Clone(b)
			for range 1 + c.Intn(2) {
				h = c.hurtBytes(h)
			}
			told[asModel(t, h)]++
		}
	}
	for _, e := range []api.Errno{api.OK, api.ErrHead, api.ErrShort, api.ErrForm, api.ErrRest} {
		if told[e] < 500 {
			t.Errorf("error %d came %d times", e, told[e])
		}
	}
}

// hurtBytes changes bytes at some place.
func (c *chance) hurtBytes(b []byte) []byte {
	if len(b) == 0 {
		return b
	}
	at := c.Intn(len(b))
	switch c.Intn(5) {
	case 0:
		b[at] = byte(c.Intn(256))
	case 1:
		b[at] = byte(c.Intn(22))
	case 2:
		b[at] ^= 1 << c.Intn(8)
	case 3:
		return slices.Delete(b, at, at+1)
	case 4:
		return slices.Insert(b, at, byte(c.Intn(22)))
	}
	return b
}

// P5.2: each byte of some heads turned into each other one, against the model.
func TestGetOneByteTurned(t *testing.T) {
	for _, h := range []api.Head{
		ofSchema(schema(t, `a int64, s list(i text?)?, d dict(3, uint8, v fixed(2)), c choice(x span(2, y null?), z runs(r bool?)?) | "k" "v"`)),
		{Kind: api.HeadDict, ID: 1, Delta: true, Rows: 2, Nodes: nodes(1, 2, 1), Slots: slots(1, 1, 2, 3)},
		{Kind: api.HeadBatch, Rows: 2, Press: 2, Nodes: nodes(2, 2, 1), Slots: slots(2, 1, 2, 3)},
	} {
		b, _ := Put(h)
		for i := range b {
			for x := range 256 {
				turned := bytes.Clone(b)
				turned[i] = byte(x)
				asModel(t, turned)
			}
		}
	}
}

// R1: any bytes.
func TestGetAnyBytes(t *testing.T) {
	c := newChance(6)
	for range 20000 {
		b := make([]byte, c.Intn(60))
		for i := range b {
			b[i] = byte(c.Intn([]int{3, 22, 256}[c.Intn(3)]))
		}
		copy(b, []byte{byte(1 + c.Intn(3)), 1, 0, 0}[:c.Intn(5)])
		asModel(t, b)
	}
}
