package frame

import (
	"bytes"
	"testing"

	"colonnade/api"
)

func sameNext(t *testing.T, r *Reader, how int, e api.Errno) api.Message {
	t.Helper()
	m, h, f := r.Next()
	if h != how || f != e {
		t.Errorf("Next: %d, %d, want %d, %d", h, f, how, e)
	}
	if how != One && (m.Meta != nil || m.Body != nil) {
		t.Errorf("Next: %d with the message %x", h, m)
	}
	return m
}

func reader(t *testing.T, meta, body int) *Reader {
	t.Helper()
	r, e := NewReader(api.Limits{Meta: meta, Body: body})
	if r == nil || e != api.OK {
		t.Fatalf("NewReader(%d, %d): %d", meta, body, e)
	}
	return r
}

// P7.1, the chapter's example 1.
func TestExampleBytes(t *testing.T) {
	end := "COL0\x00\x00\x00\x00\x00\x00\x00\x00\xd3\x69\xa5\xa8\xc5\x9d\x1c\x81\x00\x00\x00\x00"
	if b := Close(); string(b) != end {
		t.Errorf("Close: %x, want %x", b, end)
	}
	b, e := Put(api.Message{})
	if e != api.OK || len(b) != 24 || string(b[:12]) != "COL1\x00\x00\x00\x00\x00\x00\x00\x00" || string(b[16:]) != end[16:] {
		t.Errorf("Put of no bytes: %x, %d", b, e)
	}
	if !bytes.Equal(b, modelPut("", "")) {
		t.Errorf("Put of no bytes: %x, want %x", b, modelPut("", ""))
	}
	b, e = Put(api.Message{Meta: []byte("abc"), Body: []byte("123456789")})
	if e != api.OK || len(b) != 48 || !bytes.Equal(b, modelPut("abc", "123456789")) {
		t.Errorf("Put of 3 and 9: %x, %d", b, e)
	}
}

// P7.1, the chapter's example 2.
func TestExampleReader(t *testing.T) {
	b, _ := Put(api.Message{Meta: []byte("abc"), Body: []byte("123456789")})
	r := reader(t, 10, 10)
	sameNext(t, r, More, api.OK)
	r.Feed(b[:47])
	sameNext(t, r, More, api.OK)
	if n := r.Held(); n != 47 {
		t.Errorf("Held: %d", n)
	}
	r.Feed(b[47:])
	if m := sameNext(t, r, One, api.OK); string(m.Meta) != "abc" || string(m.Body) != "123456789" {
		t.Errorf("the message: %q", m)
	}
	if n := r.Held(); n != 0 {
		t.Errorf("Held: %d", n)
	}
	sameNext(t, r, More, api.OK)
	r.Feed(Close())
	sameNext(t, r, End, api.OK)
	sameNext(t, r, End, api.OK)
	r.Feed([]byte{0})
	sameNext(t, r, Wrong, api.ErrTail)
}

// P7.1, the chapter's examples 3 and 4.
func TestExampleWrong(t *testing.T) {
	for _, s := range []string{"COL2", "COM"} {
		r := reader(t, 0, 0)
		r.Feed([]byte(s))
		sameNext(t, r, Wrong, api.ErrMark)
	}
	b, _ := Put(api.Message{Meta: []byte("abc"), Body: []byte("123456789")})
	r := reader(t, 2, 10)
	r.Feed(b[:15])
	sameNext(t, r, More, api.OK)
	r.Feed(b[15:16])
	sameNext(t, r, Wrong, api.ErrLimit)
	r = reader(t, 0, 0)
	if e := r.Shut(); e != api.OK {
		t.Errorf("Shut: %d", e)
	}
	sameNext(t, r, Wrong, api.ErrCut)
	if e, f := r.Feed(nil), r.Shut(); e != api.ErrEnded || f != api.ErrEnded {
		t.Errorf("behind Shut: Feed %d, Shut %d", e, f)
	}
}

// P7.1, the chapter's example 5, and the limits, just so many and one more.
func TestLimits(t *testing.T) {
	for _, c := range []struct {
		meta, body int
		e          api.Errno
	}{
		{65537, 0, api.ErrArg}, {0, -1, api.ErrArg}, {-1, 0, api.ErrArg}, {0, 4194305, api.ErrArg}, {-1, -1, api.ErrArg},
		{-1 << 63, 0, api.ErrArg}, {0, 1<<63 - 1, api.ErrArg}, {1 << 32, 1 << 32, api.ErrArg},
		{0, 0, api.OK}, {65536, 4194304, api.OK}, {1, 0, api.OK}, {0, 1, api.OK},
	} {
		if r, e := NewReader(api.Limits{Meta: c.meta, Body: c.body}); e != c.e || (r == nil) != (e != api.OK) {
			t.Errorf("NewReader(%d, %d): %v, %d, want %d", c.meta, c.body, r, e, c.e)
		}
	}
	for _, c := range []struct {
		meta, body int
		e          api.Errno
	}{{65537, 0, api.ErrBytes}, {0, 4194305, api.ErrBytes}, {65537, 4194305, api.ErrBytes}, {65536, 4194304, api.OK}, {65536, 0, api.OK}, {0, 4194304, api.OK}} {
		b, e := Put(api.Message{Meta: make([]byte, c.meta), Body: make([]byte, c.body)})
		if e != c.e || (b == nil) != (e != api.OK) {
			t.Errorf("Put of %d and %d: %d bytes, %d, want %d", c.meta, c.body, len(b), e, c.e)
		}
	}
}
