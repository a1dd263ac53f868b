package frame

import (
	"bytes"
	"runtime"
	"slices"
	"strings"
	"testing"
	"time"

	"colonnade/api"
)

// P7.1: Put by the chapter's table, at all short lengths.
func TestPut(t *testing.T) {
	for m := range 20 {
		for b := range 20 {
			meta, body := strings.Repeat("m", m), strings.Repeat("\xfe", b)
			got, e := Put(api.Message{Meta: []byte(meta), Body: []byte(body)})
			if want := modelPut(meta, body); !bytes.Equal(got, want) || e != api.OK {
				t.Fatalf("Put of %d and %d: %x, %d, want %x", m, b, got, e, want)
			}
		}
	}
	if got, want := Close(), modelClose(); !bytes.Equal(got, want) {
		t.Errorf("Close: %x, want %x", got, want)
	}
}

// P7.1: calls in any order, of any bytes, in any pieces.
func TestAnyOrder(t *testing.T) {
	c := newChance(7)
	for range 6000 {
		b := c.stream()
		for range c.Intn(3) {
			b = append(b, c.anyHead()...)
		}
		b = c.hurt(b)
		anyOrder(c, newPair(t, c.limits()), b)
	}
}

func anyOrder(c chance, p pair, b []byte) {
	p.t.Helper()
	most := 1 + c.Intn(60)
	for len(b) > 0 && !p.m.shut {
		n := min(c.Intn(most+1), len(b))
		p.feed(b[:n])
		b = b[n:]
		for range c.Intn(3) {
			p.next()
		}
		if c.Intn(2) == 0 {
			p.held()
		}
		if c.Intn(60) == 0 {
			p.shut()
		}
	}
	p.rest()
	if c.Intn(2) == 0 {
		p.shut()
		p.rest()
	}
	p.feed([]byte("x"))
	p.rest()
}

// wrongCase is bytes, the number of the first wrong one (counted from 1 on), and what it is.
type wrongCase struct {
	b     []byte
	wrong int
	e     api.Errno
}

// P7.1: messages in which one part is wrong are told at just the byte that makes them so, byte by byte and at once.
func TestWrongByte(t *testing.T) {
	l := api.Limits{Meta: 10, Body: 20}
	rest := "abc\x00\x00\x00\x00\x00" + "123456789\x00\x00\x00\x00\x00\x00\x00"
	right := fnvOf([]byte("abc123456789"))
	at := func(s string, i int) string { return s[:i] + "\x01" + s[i+1:] }
	badSum := func(b []byte) []byte { b[12]++; return b }
	cases := []wrongCase{
		{[]byte("DOL1"), 1, api.ErrMark}, {[]byte("CoL1"), 2, api.ErrMark}, {[]byte("COM1"), 3, api.ErrMark}, {[]byte("COL2"), 4, api.ErrMark}, {[]byte{0}, 1, api.ErrMark},
		{badSum(forged("COL1", 3, 9, right, noBytes, rest)), 16, api.ErrSum},
		{badSum(forged("COL1", 1<<32-1, 0, right, noBytes, rest)), 16, api.ErrSum},
		{badSum(forged("COL0", 1, 1, right, noBytes, rest)), 16, api.ErrSum},
		{badSum(modelClose()), 16, api.ErrSum},
		{forged("COL1", 11, 9, right, noBytes, rest), 16, api.ErrLimit},
		{forged("COL1", 3, 21, right, noBytes, rest), 16, api.ErrLimit},
		{forged("COL1", 1<<32-1, 1<<32-1, right, noBytes, rest), 16, api.ErrLimit},
		{forged("COL1", 1<<31, 0, right, noBytes, rest), 16, api.ErrLimit},
		{forged("COL1", 0, 1<<31, right, noBytes, rest), 16, api.ErrLimit},
		{forged("COL0", 11, 0, right, noBytes, rest), 16, api.ErrLimit},
		{forged("COL0", 0, 21, right, noBytes, rest), 16, api.ErrLimit},
		{forged("COL0", 1, 0, right, noBytes, rest), 16, api.ErrForm},
		{forged("COL0", 0, 1, right, noBytes, rest), 16, api.ErrForm},
		{forged("COL0", 10, 20, right, noBytes, rest), 16, api.ErrForm},
		{forged("COL1", 3, 9, right+1, noBytes, rest), 48, api.ErrSum},
		{forged("COL1", 3, 9, right+1<<24, noBytes, rest), 48, api.ErrSum},
		{forged("COL1", 3, 9, right, noBytes, at(rest, 0)), 48, api.ErrSum},
		{forged("COL1", 3, 9, right, noBytes, at(rest, 16)), 48, api.ErrSum},
		{forged("COL1", 3, 9, right+1, noBytes, at(rest, 23)), 48, api.ErrForm},
		{forged("COL1", 8, 0, right, noBytes, "abcdefgh"), 32, api.ErrSum},
		{forged("COL1", 0, 8, right, noBytes, "abcdefgh"), 32, api.ErrSum},
		{forged("COL1", 8, 8, right, noBytes, "abcdefghabcdefgh"), 40, api.ErrSum},
		{forged("COL1", 1, 0, right, noBytes, "a\x00\x00\x00\x00\x00\x00\x00"), 32, api.ErrSum},
		{forged("COL1", 0, 0, right, noBytes, ""), 24, api.ErrSum},
		{forged("COL0", 0, 0, right, noBytes, ""), 24, api.ErrSum},
		{forged("COL1", 0, 0, right, at(noBytes, 3), ""), 24, api.ErrForm},
		{forged("COL0", 0, 0, right, at(noBytes, 3), ""), 24, api.ErrForm},
		{forged("COL0", 0, 0, fnvOf(nil), at(noBytes, 0), ""), 21, api.ErrForm},
		{append(modelClose(), 'C'), 25, api.ErrTail},
		{append(modelClose(), modelClose()...), 25, api.ErrTail},
	}
	for i := range 4 {
		cases = append(cases, wrongCase{forged("COL1", 3, 9, right, at(noBytes, i), rest), 21 + i, api.ErrForm})
	}
	for i := range rest {
		if rest[i] == 0 {
			cases = append(cases, wrongCase{forged("COL1", 3, 9, right, noBytes, at(rest, i)), 25 + i, api.ErrForm})
		}
	}
	ahead := modelPut("first", "one")
	for _, c := range cases {
		checkWrong(t, l, c)
		checkWrong(t, l, wrongCase{append(bytes.Clone(ahead), c.b...), len(ahead) + c.wrong, c.e})
	}
}

func checkWrong(t *testing.T, l api.Limits, c wrongCase) {
	t.Helper()
	p := newPair(t, l)
	for k := range c.b {
		p.feed(c.b[k : k+1])
		p.held()
		if how := p.next(); (how == Wrong) != (k+1 >= c.wrong) {
			t.Fatalf("%x: at byte %d: %d", c.b, k+1, how)
		}
		p.held()
	}
	sameNext(t, p.r, Wrong, c.e)
	p.shut()
	sameNext(t, p.r, Wrong, c.e)
	p = newPair(t, l)
	p.feed(c.b)
	p.rest()
	sameNext(t, p.r, Wrong, c.e)
}

// P7.1: a message of just the limits is taken, one of a byte more refused as soon as its lengths are there.
func TestReaderLimits(t *testing.T) {
	for _, n := range []int{0, 1, 7, 8, 9, 500, api.MaxMeta} {
		text := strings.Repeat("q", n)
		takes := func(l api.Limits, b []byte, most bool) {
			t.Helper()
			r := reader(t, l.Meta, l.Body)
			r.Feed(b[:16])
			if !most {
				sameNext(t, r, Wrong, api.ErrLimit)
				return
			}
			sameNext(t, r, More, api.OK)
			r.Feed(b[16:])
			sameNext(t, r, One, api.OK)
		}
		takes(api.Limits{Meta: n}, modelPut(text, ""), true)
		takes(api.Limits{Body: n}, modelPut("", text), true)
		takes(api.Limits{Meta: n, Body: n}, modelPut(text, text), true)
		takes(api.Limits{Meta: n, Body: api.MaxBody}, modelPut(text+"q", ""), false)
		takes(api.Limits{Meta: api.MaxMeta, Body: n}, modelPut("", text+"q"), false)
	}
}

// P7.1: bytes behind the first wrong one are held as fed as long as a message ahead of it was not told, and no longer.
func TestHeld(t *testing.T) {
	two := append(modelPut("a", "b"), modelPut("", "c")...)
	for _, tail := range []string{"", "C", "COL1", "COL1\x03", "x", "COM and more", string(modelClose()), string(modelClose()) + "x", string(modelClose()[:23]) + "x" + string(two)} {
		for _, shut := range []bool{false, true} {
			p := newPair(t, widest)
			p.feed(two)
			p.held()
			p.feed([]byte(tail))
			p.held()
			if n := p.r.Held(); n != len(two)+len(tail) {
				t.Errorf("%q: Held: %d", tail, n)
			}
			if shut {
				p.shut()
			}
			p.rest()
		}
	}
	p := newPair(t, widest)
	for i, c := range append(bytes.Clone(two), modelClose()...) {
		p.feed([]byte{c})
		if n := p.r.Held(); n != i+1 {
			t.Errorf("after %d bytes: Held %d", i+1, n)
		}
	}
	p.rest()
	if n := p.r.Held(); n != 0 {
		t.Errorf("at the end: Held %d", n)
	}
}

// thereAndBack feeds messages and the end in pieces, and looks whether just they are told.
func thereAndBack(t *testing.T, c chance, l []api.Message, most int, between bool) {
	t.Helper()
	limits := api.Limits{}
	var b []byte
	for _, m := range l {
		x, e := Put(m)
		if e != api.OK {
			t.Fatalf("Put: %d", e)
		}
		b = append(b, x...)
		limits.Meta, limits.Body = max(limits.Meta, len(m.Meta)), max(limits.Body, len(m.Body))
	}
	b = append(b, Close()...)
	r := reader(t, limits.Meta, limits.Body)
	var got []api.Message
	ask := func() (int, api.Errno) {
		for {
			m, how, e := r.Next()
			if how != One {
				return how, e
			}
			got = append(got, m)
		}
	}
	for len(b) > 0 {
		n := min(1+c.Intn(most), len(b))
		if e := r.Feed(b[:n]); e != api.OK {
			t.Fatalf("Feed: %d", e)
		}
		b = b[n:]
		if between && len(b) > 0 {
			if how, e := ask(); how != More || e != api.OK {
				t.Fatalf("with %d bytes to come: %d, %d", len(b), how, e)
			}
		}
	}
	for range 2 {
		if how, e := ask(); how != End || e != api.OK {
			t.Fatalf("at the end: %d, %d", how, e)
		}
		r.Shut()
	}
	same := func(a, b api.Message) bool { return bytes.Equal(a.Meta, b.Meta) && bytes.Equal(a.Body, b.Body) }
	if !slices.EqualFunc(got, l, same) {
		t.Fatalf("told %.200x, want %.200x", got, l)
	}
}

// P7.2: there and back, in any pieces, told at once or along the way.
func TestThereAndBack(t *testing.T) {
	c := newChance(72)
	for i := range 3000 {
		l := make([]api.Message, c.Intn(6))
		for k := range l {
			l[k] = api.Message{Meta: []byte(c.text(30)), Body: []byte(c.text(60))}
		}
		thereAndBack(t, c, l, 1+c.Intn(90), i%2 == 0)
	}
	thereAndBack(t, c, nil, 1, true)
	big := api.Message{Meta: bytes.Repeat([]byte("meta"), api.MaxMeta/4), Body: bytes.Repeat([]byte("12345678"), api.MaxBody/8)}
	for _, most := range []int{1, 5000, 1 << 24} {
		thereAndBack(t, c, []api.Message{{}, big, {Body: big.Body[1:]}, {Meta: big.Meta[1:]}}, most, true)
	}
}

// parts is messages, their bytes with the end's, and where each begins (the end, too).
func parts() (l []api.Message, b []byte, at []int) {
	for _, x := range [][2]string{{"abc", "123456789"}, {"", ""}, {"ab", "cd"}, {"COL1COL0", ""}, {"", "\x00\x00COL1\x00"}, {"\x00", "12345678"}} {
		l = append(l, api.Message{Meta: []byte(x[0]), Body: []byte(x[1])})
		at = append(at, len(b))
		b = append(b, modelPut(x[0], x[1])...)
	}
	return l, append(b, modelClose()...), append(at, len(b))
}

// told asks for the messages, which have to be these, and what Next tells behind them.
func told(t *testing.T, r *Reader, l []api.Message) (int, api.Errno) {
	t.Helper()
	for i, want := range l {
		m, how, e := r.Next()
		if how != One || e != api.OK || !bytes.Equal(m.Meta, want.Meta) || !bytes.Equal(m.Body, want.Body) {
			t.Fatalf("message %d: %x, %d, %d, want %x", i, m, how, e, want)
		}
	}
	_, how, e := r.Next()
	return how, e
}

// P7.3: each byte of a stream turned into each other one.
func TestOneByte(t *testing.T) {
	l, b, at := parts()
	for i := range b {
		ahead := 0
		for ahead+1 < len(at) && at[ahead+1] <= i {
			ahead++
		}
		for c := 1; c < 256; c++ {
			x := bytes.Clone(b)
			x[i] ^= byte(c)
			r := reader(t, api.MaxMeta, api.MaxBody)
			r.Feed(x)
			r.Shut()
			how, e := told(t, r, l[:ahead])
			if how != Wrong || e == api.OK {
				t.Fatalf("byte %d turned by %x: %d, %d", i, c, how, e)
			}
			sameNext(t, r, Wrong, e)
		}
	}
}

// P7.4: a stream cut at each place.
func TestCutShort(t *testing.T) {
	l, b, at := parts()
	for n := range b {
		whole := 0
		for whole < len(l) && at[whole+1] <= n {
			whole++
		}
		for _, piece := range []int{1, 7, len(b)} {
			r := reader(t, 10, 10)
			for from := 0; from < n; from += piece {
				r.Feed(b[from:min(from+piece, n)])
			}
			r.Shut()
			if how, e := told(t, r, l[:whole]); how != Wrong || e != api.ErrCut {
				t.Fatalf("cut to %d: %d, %d", n, how, e)
			}
			sameNext(t, r, Wrong, api.ErrCut)
			if h := r.Held(); h != 0 {
				t.Fatalf("cut to %d: Held %d", n, h)
			}
		}
	}
}

// scribble writes into all of a list's room.
func scribble(b []byte) {
	b = b[:cap(b)]
	for i := range b {
		b[i] ^= 0xff
	}
}

// P7.5: what is told is new memory, with its spare room; what was handed in is neither changed nor kept.
func TestMemory(t *testing.T) {
	for _, piece := range []int{1, 5, 24, 1000} {
		l, b, _ := parts()
		r := reader(t, 10, 10)
		for from := 0; from < len(b); from += piece {
			x := make([]byte, min(piece, len(b)-from), 2*piece+8)
			copy(x, b[from:])
			kept := bytes.Clone(x[:cap(x)])
			r.Feed(x)
			if !bytes.Equal(x[:cap(x)], kept) {
				t.Fatalf("Feed has changed %x to %x", kept, x[:cap(x)])
			}
			scribble(x)
		}
		for i := range l {
			m, how, _ := r.Next()
			if how != One || !bytes.Equal(m.Meta, l[i].Meta) || !bytes.Equal(m.Body, l[i].Body) {
				t.Fatalf("message %d: %d, %x, want %x", i, how, m, l[i])
			}
			scribble(m.Meta)
			if !bytes.Equal(m.Body, l[i].Body) {
				t.Fatalf("message %d: Meta and Body share memory", i)
			}
			scribble(m.Body)
		}
		sameNext(t, r, End, api.OK)
	}
	// A told message is no longer the reader's: what follows is laid elsewhere.
	r := reader(t, 10, 10)
	r.Feed(append(modelPut("abc", "defgh"), "COL1"...))
	m, _, _ := r.Next()
	scribble(m.Meta)
	scribble(m.Body)
	meta, body := bytes.Clone(m.Meta[:cap(m.Meta)]), bytes.Clone(m.Body[:cap(m.Body)])
	r.Feed(modelPut("ijk", "lmnop")[4:])
	n, how, _ := r.Next()
	if how != One || string(n.Meta) != "ijk" || string(n.Body) != "lmnop" || !bytes.Equal(m.Meta[:cap(m.Meta)], meta) || !bytes.Equal(m.Body[:cap(m.Body)], body) {
		t.Errorf("two messages share memory: %x, %x", m, n)
	}
}

// P7.5: the same of Put and Close.
func TestPutMemory(t *testing.T) {
	m := api.Message{Meta: append(make([]byte, 0, 64), "abc"...), Body: append(make([]byte, 0, 64), "123456789"...)}
	room := func() string { return string(m.Meta[:64]) + string(m.Body[:64]) }
	before := room()
	b, _ := Put(m)
	again, _ := Put(m)
	scribble(b)
	if room() != before || !bytes.Equal(again, modelPut("abc", "123456789")) {
		t.Errorf("Put: its answer shares memory, or it has changed the message")
	}
	scribble(m.Meta)
	scribble(m.Body)
	if !bytes.Equal(again, modelPut("abc", "123456789")) {
		t.Errorf("Put: its answer hangs on the message's memory")
	}
	x := Close()
	scribble(x)
	if !bytes.Equal(Close(), modelClose()) {
		t.Errorf("Close: answers share memory")
	}
}

func allocated() uint64 {
	var s runtime.MemStats
	runtime.ReadMemStats(&s)
	return s.TotalAlloc
}

// Lengths make no room by themselves, and what is told or wrong is not kept.
func TestRoom(t *testing.T) {
	head := forged("COL1", api.MaxMeta, api.MaxBody, 0, noBytes, "m")
	before := allocated()
	for range 200 {
		r := reader(t, api.MaxMeta, api.MaxBody)
		r.Feed(head)
		sameNext(t, r, More, api.OK)
	}
	if n := allocated() - before; n > 200*4096 {
		t.Errorf("200 readers, fed %d bytes each, took %d bytes", len(head), n)
	}
	r := reader(t, api.MaxMeta, api.MaxBody)
	r.Feed([]byte("wrong"))
	much := make([]byte, 1<<20)
	before = allocated()
	for range 200 {
		r.Feed(much)
	}
	if n := allocated() - before; n > 1<<20 {
		t.Errorf("behind a wrong byte %d bytes were taken", n)
	}
}

// Each byte is gone through once, however small the pieces, and however many messages wait.
func TestTime(t *testing.T) {
	began := time.Now()
	many := bytes.Repeat(modelPut("", ""), 60000)
	r := reader(t, 0, 0)
	r.Feed(many)
	for range 60000 {
		if _, how, _ := r.Next(); how != One {
			t.Fatal(how)
		}
	}
	sameNext(t, r, More, api.OK)
	if d := time.Since(began); d > 20*time.Second {
		t.Errorf("it took %v", d)
	}
}

// Whatever bytes come, the pieces are not seen; and what Put makes is told again.
func FuzzReader(f *testing.F) {
	_, b, _ := parts()
	f.Add(b, 3)
	f.Add([]byte("COL1"), 1)
	f.Fuzz(func(t *testing.T, b []byte, piece int) {
		piece = 1 + piece&63
		b = b[:min(len(b), 300)]
		p := newPair(t, api.Limits{Meta: 40, Body: 40})
		for from := 0; from < len(b); from += piece {
			p.feed(b[from:min(from+piece, len(b))])
			p.next()
			p.held()
		}
		p.rest()
		p.shut()
		p.rest()
	})
}
