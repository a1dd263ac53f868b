package meta

import (
	"bytes"
	"encoding/hex"
	"fmt"
	"strings"
	"testing"

	"colonnade/api"
)

// alike tells whether two heads are the same; a list without elements may be nil or not.
func alike(a, b api.Head) bool { return fmt.Sprintf("%+v", a) == fmt.Sprintf("%+v", b) }

// base16 is the bytes of a text in base sixteen, blanks and commas aside.
func base16(t *testing.T, text string) []byte {
	t.Helper()
	b, err := hex.DecodeString(strings.NewReplacer(" ", "", ",", "").Replace(text))
	if err != nil {
		t.Fatal(err)
	}
	return b
}

// laid holds Put and Get of a head that may be against its bytes.
func laid(t *testing.T, h api.Head, want []byte) {
	t.Helper()
	if b, e := Put(h); e != api.OK || !bytes.Equal(b, want) {
		t.Fatalf("Put(%+v) = %x, %d, want %x", h, b, e, want)
	}
	if got, x := Get(want); !isZero(x) || !alike(got, h) {
		t.Fatalf("Get(%x) = %+v, %+v, want %+v", want, got, x, h)
	}
}

// isZero tells whether a fault is the one of zeros.
func isZero(x api.Fault) bool { return x.Err == 0 && x.At == 0 && x.Path == nil }

// refused holds Put of a head that may not be.
func refused(t *testing.T, name string, h api.Head) {
	t.Helper()
	if b, e := Put(h); e != api.ErrHead || len(b) != 0 {
		t.Errorf("%s: Put = %x, %d", name, b, e)
	}
}

// faulty holds Get of bytes with which something is wrong.
func faulty(t *testing.T, b []byte, e api.Errno, at int) {
	t.Helper()
	h, x := Get(b)
	if x.Err != e || x.At != at || len(x.Path) != 0 || !alike(h, api.Head{}) {
		t.Fatalf("Get(%x) = %+v, %+v, want %d at %d", b, h, x, e, at)
	}
}

// asModel holds Get of any bytes against the model.
func asModel(t *testing.T, b []byte) api.Errno {
	t.Helper()
	h, x := modelGet(b)
	if x.Err != api.OK {
		faulty(t, b, x.Err, x.At)
	} else {
		laid(t, h, b)
	}
	return x.Err
}

// The chapter's examples 1 to 3.
func TestExamplesBytes(t *testing.T) {
	note := schema(t, `a int64 | "k" "v"`)
	twelve := strings.Repeat("00", 12)
	for _, x := range []struct {
		h    api.Head
		want string
	}{
		{api.Head{Kind: api.HeadSchema}, "01 01 00 00, 00 00, 00 00"},
		{api.Head{Kind: api.HeadSchema, Schema: schema(t, "a int64")}, "01 01 00 00, 01 00, 01 61 00 06, 00 00"},
		{api.Head{Kind: api.HeadSchema, Schema: note}, "01 01 00 00, 01 00, 01 61 00 06, 01 00, 01 00 6B, 01 00 76"},
		{api.Head{Kind: api.HeadSchema, Schema: schema(t, "s list(item text)?")}, "01 01 00 00, 01 00, 01 73 01 0F, 04 69 74 65 6D 00 0C, 00 00"},
		{api.Head{Kind: api.HeadSchema, Schema: schema(t, "d dict(3, uint8, v fixed(2))")}, "01 01 00 00, 01 00, 01 64 00 13, 03 00 07, 01 76 00 0E 02 00, 00 00"},
		{api.Head{Kind: api.HeadBatch, Rows: 2, Nodes: []api.Node{{Length: 2}}, Slots: []api.Slot{{}, {At: 0, Len: 16, Raw: 16}}},
			"03 01 00 00, 02 00 00 00, 00, 01 00, 02 00 00 00 00 00 00 00, 02 00," + twelve + ", 00 00 00 00 10 00 00 00 10 00 00 00"},
		{api.Head{Kind: api.HeadDict, ID: 1, Delta: true}, "02 01 00 00, 01 00, 01, 00 00 00 00, 00, 00 00, 00 00"},
	} {
		laid(t, x.h, base16(t, x.want))
	}
}

// The chapter's example 4.
func TestExamplesFaults(t *testing.T) {
	for _, x := range []struct {
		b  string
		e  api.Errno
		at int
	}{
		{"", api.ErrShort, 0},
		{"01 02", api.ErrForm, 1},
		{"01", api.ErrShort, 1},
		{"01 01 00", api.ErrShort, 3},
		{"04", api.ErrForm, 0},
		{"01 01 00 00 00", api.ErrShort, 4},
		{"01 01 00 00 01 00 05 61", api.ErrShort, 7},
		{"01 01 00 00, 00 00, 00 00, 00", api.ErrRest, 8},
		{"01 01 00 00, 01 00, 01 61 02 06, 00 00", api.ErrForm, 8},
		{"01 01 00 00, 01 00, 01 61 02 00, 00 00", api.ErrForm, 8},
		{"01 01 00 00, 01 00, 01 61 00 01, 00 00", api.ErrHead, 0},
	} {
		faulty(t, base16(t, x.b), x.e, x.at)
	}
	laid(t, api.Head{Kind: api.HeadSchema, Schema: schema(t, "a null?")}, base16(t, "01 01 00 00, 01 00, 01 61 01 01, 00 00"))
	faulty(t, nil, api.ErrShort, 0)
}

// The chapter's example 5.
func TestExamplesRefused(t *testing.T) {
	refused(t, "Kind 0", api.Head{})
	refused(t, "HeadSchema with Rows 1", api.Head{Kind: api.HeadSchema, Rows: 1})
	refused(t, "a node {2, 3}", api.Head{Kind: api.HeadBatch, Nodes: []api.Node{{Length: 2, Nulls: 3}}})
	refused(t, "HeadBatch with ID 1", api.Head{Kind: api.HeadBatch, ID: 1})
}

// P5.1, P5.3: heads that may be, against the model, and back.
func TestThereAndBack(t *testing.T) {
	c := newChance(1)
	kinds := map[int]int{}
	for range 5000 {
		h := c.head(t)
		if !modelMayBe(h) {
			t.Fatalf("the model lets no %+v", h)
		}
		laid(t, h, modelPut(h))
		for _, f := range h.Schema.Fields {
			kinds[f.Type.Kind]++
		}
	}
	for k := api.Null; k <= api.Runs; k++ {
		if kinds[k] < 20 {
			t.Errorf("kind %d came %d times", k, kinds[k])
		}
	}
}

// P5.4: each beginning is too short; what stands behind is told at its place.
func TestBeginningsAndRests(t *testing.T) {
	c := newChance(2)
	for range 500 {
		b, e := Put(c.head(t))
		if e != api.OK {
			t.Fatal(e)
		}
		for n := range len(b) {
			if h, x := Get(b[:n]); x.Err != api.ErrShort || x.At > n || len(x.Path) != 0 || !alike(h, api.Head{}) {
				t.Fatalf("Get(%x) = %+v, %+v", b[:n], h, x)
			}
			asModel(t, b[:n])
		}
		for n := 1; n < 20; n += 1 + c.Intn(5) {
			more := make([]byte, n)
			c.Read(more)
			faulty(t, append(bytes.Clone(b), more...), api.ErrRest, len(b))
		}
		faulty(t, append(bytes.Clone(b), b...), api.ErrRest, len(b))
	}
}

// R3: what is handed in is neither changed nor kept, and answers are new memory.
func TestMemory(t *testing.T) {
	c := newChance(3)
	for range 300 {
		h := c.head(t)
		before := fmt.Sprintf("%+v", h)
		b, _ := Put(h)
		again, _ := Put(h)
		if fmt.Sprintf("%+v", h) != before {
			t.Fatalf("Put changed %s", before)
		}
		roomy := append(make([]byte, 0, len(b)+8), b...)
		copy(roomy[len(b):cap(roomy)], "sparerm!")
		got, _ := Get(roomy)
		other, _ := Get(roomy)
		if !bytes.Equal(roomy, b) || string(roomy[len(b):len(b)+8]) != "sparerm!" {
			t.Fatalf("Get changed its bytes: %x", roomy)
		}
		clear(roomy[:cap(roomy)])
		clear(b[:cap(b)])
		scribble(other)
		if !alike(got, h) || !bytes.Equal(again, modelPut(h)) {
			t.Fatalf("kept: %+v, %x, want %s", got, again, before)
		}
	}
}

// scribble writes into all lists of a head, and behind them.
func scribble(h api.Head) {
	clear(h.Nodes[:cap(h.Nodes)])
	clear(h.Slots[:cap(h.Slots)])
	clear(h.Schema.Notes[:cap(h.Schema.Notes)])
	var down func(l []api.Field)
	down = func(l []api.Field) {
		for _, f := range l {
			down(f.Type.Fields)
		}
		clear(l[:cap(l)])
	}
	down(h.Schema.Fields)
}

// R3: no two lists of one answer share memory, spare room too.
func TestListsApart(t *testing.T) {
	s := schema(t, "a struct(x int8, y int8, z int8), b struct(x text), c choice(p bool, q list(r bytes)), d struct()")
	b, _ := Put(api.Head{Kind: api.HeadSchema, Schema: s})
	h, _ := Get(b)
	var lists []*[]api.Field
	var down func(l *[]api.Field)
	down = func(l *[]api.Field) {
		lists = append(lists, l)
		for i := range *l {
			down(&(*l)[i].Type.Fields)
		}
	}
	down(&h.Schema.Fields)
	for _, l := range lists {
		_ = append(*l, api.Field{Name: "more"})
	}
	if !alike(h, api.Head{Kind: api.HeadSchema, Schema: s}) {
		t.Errorf("a list has written into another one: %+v", h)
	}
}
