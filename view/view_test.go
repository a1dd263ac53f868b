package view

import (
	"bytes"
	"math/big"
	"slices"
	"testing"

	"colonnade/api"
)

const most = 1<<63 - 1
const least = -1 << 63

// edges are numbers around the beginning and the end of a few bytes, and the outermost ones.
func edges(n int) []int {
	l := []int{least, least + 1, -9, -8, -4, -1, 1 << 31, 1 << 32, 1 << 60, 1 << 61, 1 << 62, most - 8, most - 1, most}
	for i := range n + 10 {
		l = append(l, i)
	}
	return l
}

// within tells by unbounded numbers whether n times width bytes from one on lie in so many.
func within(from, n, width, all int) bool {
	end := new(big.Int).Mul(big.NewInt(int64(n)), big.NewInt(int64(width)))
	end.Add(end, big.NewInt(int64(from)))
	return from >= 0 && n >= 0 && end.Cmp(big.NewInt(int64(all))) <= 0
}

// number is the model's: base 256, by unbounded numbers.
func number(b []byte) uint64 {
	x := new(big.Int)
	for _, c := range slices.Backward(b) {
		x.Add(x.Lsh(x, 8), big.NewInt(int64(c)))
	}
	return x.Uint64()
}

func signed(b []byte) int64 {
	x := new(big.Int).SetUint64(number(b))
	if b[len(b)-1] >= 0x80 {
		x.Sub(x, new(big.Int).Lsh(big.NewInt(1), uint(8*len(b))))
	}
	return x.Int64()
}

func rangeErr(ok bool) api.Errno {
	if ok {
		return api.OK
	}
	return api.ErrRange
}

// sample has bytes whose highest bit is set and such whose isn't, at all places of a number.
func sample(n int) []byte {
	b := make([]byte, n)
	for i := range b {
		b[i] = byte(0x11 + 0x4f*i)
	}
	return b
}

func sameReads(t *testing.T, w *Watch, want ...api.Read) {
	t.Helper()
	if got := w.Reads(); !slices.Equal(got, want) {
		t.Errorf("Reads: %v, want %v", got, want)
	}
}

// P1.1, the chapter's examples 1 to 3.
func TestExamples(t *testing.T) {
	v := Of([]byte{1, 2, 3, 0x84})
	if s, e := v.Text(4, 0); s != "" || e != api.OK {
		t.Errorf("Text(4, 0): %q, %d", s, e)
	}
	p, _ := v.Part(1, 2)
	if _, e := p.Byte(2); e != api.ErrRange {
		t.Errorf("Byte(2) of a part of two: %d", e)
	}
	if q, e := p.Part(2, 0); q.Len() != 0 || e != api.OK {
		t.Errorf("Part(2, 0): %d, %d", q.Len(), e)
	}
	if x, e := v.Signed(2, 2); x != -31741 || e != api.OK {
		t.Errorf("Signed(2, 2): %d, %d", x, e)
	}
	if l, e := Numbers[uint16](v, 0, 2); !slices.Equal(l, []uint16{0x0201, 0x8403}) || e != api.OK {
		t.Errorf("Numbers: %x, %d", l, e)
	}
	if l, e := Numbers[uint8](v, 4, 0); len(l) != 0 || e != api.OK {
		t.Errorf("Numbers, none: %x, %d", l, e)
	}
	if _, e := Numbers[uint64](v, 0, 1<<62); e != api.ErrRange {
		t.Errorf("Numbers, 2^62: %d", e)
	}
}

// P1.1: Byte, Load and Signed against the model, at all edges and widths.
func TestLoadAtAllPlaces(t *testing.T) {
	for n := range 12 {
		b := sample(n)
		v := Of(b)
		for _, at := range edges(n) {
			checkByte(t, v, b, at)
			for _, width := range edges(8) {
				checkLoad(t, v, b, at, width)
			}
		}
	}
}

func checkByte(t *testing.T, v View, b []byte, at int) {
	t.Helper()
	x, e := v.Byte(at)
	ok := within(at, 1, 1, len(b))
	if e != rangeErr(ok) || ok && x != b[at] || !ok && x != 0 {
		t.Errorf("Byte(%d) of %d: %x, %d", at, len(b), x, e)
	}
}

func checkLoad(t *testing.T, v View, b []byte, at, width int) {
	t.Helper()
	want, wantX, wantS := api.ErrArg, uint64(0), int64(0)
	if slices.Contains([]int{1, 2, 4, 8}, width) {
		ok := within(at, 1, width, len(b))
		want = rangeErr(ok)
		if ok {
			wantX, wantS = number(b[at:at+width]), signed(b[at:at+width])
		}
	}
	if x, e := v.Load(at, width); x != wantX || e != want {
		t.Errorf("Load(%d, %d) of %d: %x, %d", at, width, len(b), x, e)
	}
	if x, e := v.Signed(at, width); x != wantS || e != want {
		t.Errorf("Signed(%d, %d) of %d: %d, %d", at, width, len(b), x, e)
	}
}

// P1.1: Part and Text take just what lies within.
func TestPartAndText(t *testing.T) {
	for n := range 9 {
		b := sample(n)
		v := Of(b)
		for _, from := range edges(n) {
			for _, m := range edges(n) {
				ok := within(from, m, 1, n)
				want := ""
				if ok {
					want = string(b[from : from+m])
				}
				if s, e := v.Text(from, m); s != want || e != rangeErr(ok) {
					t.Errorf("Text(%d, %d) of %d: %x, %d", from, m, n, s, e)
				}
				if p, e := v.Part(from, m); string(p.Raw()) != want || p.Len() != len(want) || e != rangeErr(ok) {
					t.Errorf("Part(%d, %d) of %d: %x, %d", from, m, n, p.Raw(), e)
				}
			}
		}
	}
}

// A refused part is the zero view: it watches for nobody and has no place.
func TestRefusedPartIsZero(t *testing.T) {
	v, _ := Of(sample(4)).Watched(NewWatch()).Part(1, 3)
	p, e := v.Part(1, 3)
	if e != api.ErrRange || p.bytes != nil || p.place != 0 || p.watch != nil {
		t.Errorf("Part: %v, %d", p, e)
	}
}

type small uint8
type wide uint64

func checkNumbers[T ~uint8 | ~uint16 | ~uint32 | ~uint64](t *testing.T, n, width int) {
	t.Helper()
	b := sample(n)
	v := Of(b)
	for _, from := range edges(n) {
		for _, m := range edges(n) {
			l, e := Numbers[T](v, from, m)
			ok := within(from, m, width, n)
			if e != rangeErr(ok) || ok && len(l) != m || !ok && len(l) != 0 {
				t.Errorf("Numbers of %d bytes (%d, %d) of %d: %x, %d", width, from, m, n, l, e)
				continue
			}
			for i, x := range l {
				if y, f := v.Load(from+i*width, width); uint64(x) != y || f != api.OK {
					t.Errorf("Numbers of %d bytes (%d, %d) of %d: number %d is %x, Load %x", width, from, m, n, i, x, y)
				}
			}
		}
	}
}

// P1.1: Numbers of each width, and of types made of them.
func TestNumbers(t *testing.T) {
	for n := range 18 {
		checkNumbers[uint8](t, n, 1)
		checkNumbers[small](t, n, 1)
		checkNumbers[uint16](t, n, 2)
		checkNumbers[uint32](t, n, 4)
		checkNumbers[uint64](t, n, 8)
		checkNumbers[wide](t, n, 8)
	}
}

// P1.1: a view of no bytes, made or not.
func TestNoBytes(t *testing.T) {
	for _, v := range []View{{}, Of(nil), Of([]byte{})} {
		w := NewWatch()
		v = v.Watched(w)
		p, e := v.Part(0, 0)
		if v.Len() != 0 || len(v.Raw()) != 0 || p.Len() != 0 || e != api.OK {
			t.Errorf("Len %d, Raw %x, Part %d", v.Len(), v.Raw(), e)
		}
		if s, e := v.Text(0, 0); s != "" || e != api.OK {
			t.Errorf("Text: %q, %d", s, e)
		}
		if _, e := v.Byte(0); e != api.ErrRange {
			t.Errorf("Byte: %d", e)
		}
		if _, e := v.Load(0, 1); e != api.ErrRange {
			t.Errorf("Load: %d", e)
		}
		if _, e := Numbers[uint32](v, 0, 0); e != api.OK {
			t.Errorf("Numbers: %d", e)
		}
		sameReads(t, w)
	}
}

// P1.1: each call that reads is told once, those that are refused or read nothing aren't.
func TestWatch(t *testing.T) {
	w := NewWatch()
	sameReads(t, w)
	u := Of([]byte{1, 2, 3, 0x84}).Watched(w)
	u.Byte(1)
	u.Byte(9)
	p, _ := u.Part(2, 2)
	p.Load(0, 2)
	p.Text(1, 0)
	p.Raw()
	u.Raw()
	want := []api.Read{{From: 1, To: 2}, {From: 2, To: 4}, {From: 2, To: 4}, {From: 0, To: 4}}
	sameReads(t, w, want...)

	u.Len()
	u.Load(0, 3)
	u.Load(3, 2)
	u.Signed(0, 5)
	u.Signed(-1, 1)
	u.Text(3, 2)
	u.Part(3, 2)
	Numbers[uint16](u, 0, 3)
	Numbers[uint16](u, 3, 0)
	sameReads(t, w, want...)

	u.Signed(0, 4)
	u.Text(1, 2)
	Numbers[uint16](p, 0, 1)
	Numbers[uint8](u, 1, 3)
	want = append(want, api.Read{From: 0, To: 4}, api.Read{From: 1, To: 3}, api.Read{From: 2, To: 4}, api.Read{From: 1, To: 4})
	sameReads(t, w, want...)
}

// P1.1: one watch at a time, and Watched leaves the view it was asked of as it is.
func TestWatchedAnew(t *testing.T) {
	a, b := NewWatch(), NewWatch()
	plain := Of(sample(6))
	u := plain.Watched(a)
	p, _ := u.Part(2, 4)
	plain.Byte(0)
	q := p.Watched(b)
	q.Byte(1)
	r, _ := q.Part(1, 2)
	r.Raw()
	p.Byte(0)
	q.Watched(nil).Byte(0)
	s, _ := q.Watched(nil).Part(0, 1)
	s.Byte(0)
	sameReads(t, a, api.Read{From: 2, To: 3})
	sameReads(t, b, api.Read{From: 3, To: 4}, api.Read{From: 3, To: 5})
}

// asks asks all that reads of a view, with one pair of numbers.
func asks(v View, at, n int) {
	v.Byte(at)
	v.Load(at, n)
	v.Signed(at, n)
	v.Text(at, n)
	v.Raw()
	Numbers[uint8](v, at, n)
	Numbers[uint16](v, at, n)
	Numbers[uint32](v, at, n)
	Numbers[uint64](v, at, n)
}

// P1.2: every read that is told lies within the view that was asked.
func TestReadsLieInside(t *testing.T) {
	const n = 10
	whole := Of(sample(n))
	for from := range n + 1 {
		for size := range n + 1 - from {
			w := NewWatch()
			p, e := whole.Watched(w).Part(from, size)
			if e != api.OK {
				t.Fatalf("Part(%d, %d): %d", from, size, e)
			}
			for _, at := range edges(n) {
				for _, m := range edges(n) {
					asks(p, at, m)
				}
			}
			for _, r := range w.Reads() {
				if r.From < from || r.From >= r.To || r.To > from+size {
					t.Fatalf("Part(%d, %d) was read at %v", from, size, r)
				}
			}
		}
	}
}

// P1.3: a part tells what the whole tells further on, and a part of a part is a part.
func TestParts(t *testing.T) {
	const n = 12
	w, w2 := NewWatch(), NewWatch()
	whole := Of(sample(n))
	for from := range n + 1 {
		for size := range n + 1 - from {
			outer, _ := whole.Watched(w).Part(from/2, n-from/2)
			p, e := outer.Part(from-from/2, size)
			direct, _ := whole.Watched(w2).Part(from, size)
			if e != api.OK || p.Len() != size || !bytes.Equal(p.Raw(), direct.Raw()) {
				t.Fatalf("part of a part %d, %d: %d, %d", from, size, e, p.Len())
			}
			for at := range size {
				sameAt(t, p, whole, at, from)
				sameAt(t, direct, whole, at, from)
			}
		}
	}
	if !slices.Equal(w.Reads(), w2.Reads()) {
		t.Errorf("a part of a part is told otherwise than a part")
	}
}

func sameAt(t *testing.T, p, whole View, at, from int) {
	t.Helper()
	x, _ := p.Byte(at)
	y, _ := whole.Byte(from + at)
	if x != y {
		t.Errorf("Byte(%d): %x, the whole at %d: %x", at, x, from+at, y)
	}
	for width := 1; width <= p.Len()-at; width *= 2 {
		if width > 8 {
			break
		}
		x, e := p.Signed(at, width)
		y, f := whole.Signed(from+at, width)
		if x != y || e != api.OK || f != api.OK {
			t.Errorf("Signed(%d, %d): %d, the whole at %d: %d", at, width, x, from+at, y)
		}
		s, _ := p.Text(at, width)
		u, _ := whole.Text(from+at, width)
		if s != u {
			t.Errorf("Text(%d, %d): %x, the whole at %d: %x", at, width, s, from+at, u)
		}
	}
}

// P1.5: what is written behind Of, Part and Raw is told; Text and Numbers have their own memory.
func TestLookingCopiesNothing(t *testing.T) {
	b := sample(8)
	v := Of(b)
	p, _ := v.Part(2, 4)
	raw := p.Raw()
	text, _ := p.Text(0, 4)
	l, _ := Numbers[uint8](p, 0, 4)
	old := bytes.Clone(b)
	for i := range b {
		b[i] ^= 0xff
	}
	if x, _ := v.Byte(3); x != b[3] {
		t.Errorf("Of copies")
	}
	if x, _ := p.Byte(1); x != b[3] {
		t.Errorf("Part copies")
	}
	if !bytes.Equal(raw, b[2:6]) || &raw[0] != &b[2] || &v.Raw()[0] != &b[0] {
		t.Errorf("Raw copies")
	}
	if text != string(old[2:6]) || !bytes.Equal(l, old[2:6]) {
		t.Errorf("Text or Numbers share memory with the view: %x, %x", text, l)
	}
	l[0]++
	if m, _ := Numbers[uint8](p, 0, 4); !bytes.Equal(m, b[2:6]) || b[2] != old[2]^0xff {
		t.Errorf("Numbers share memory with the view")
	}
}

// P1.5: none of the views gives away bytes that stand behind its own.
func TestNoSpareRoom(t *testing.T) {
	all := sample(8)
	old := bytes.Clone(all)
	v := Of(all[1:5])
	p, _ := v.Part(1, 2)
	empty, _ := v.Part(2, 0)
	for _, x := range []View{v, p, empty} {
		raw := x.Raw()
		if len(raw) != x.Len() || cap(raw) != len(raw) {
			t.Errorf("Raw of %d: %d of %d", x.Len(), len(raw), cap(raw))
		}
		_ = append(raw, 0xee)
	}
	if v.Len() != 4 || !bytes.Equal(all, old) {
		t.Errorf("the bytes behind a view were reached: %x", all)
	}
	if _, e := v.Byte(4); e != api.ErrRange {
		t.Errorf("spare room is looked into: %d", e)
	}
}

// P1.5: Reads is new memory, spare room too.
func TestReadsAreNewMemory(t *testing.T) {
	w := NewWatch()
	v := Of(sample(4)).Watched(w)
	for range 3 {
		v.Byte(1)
	}
	a, b := w.Reads(), w.Reads()
	a = a[:cap(a)]
	for i := range a {
		a[i] = api.Read{From: 9, To: 9}
	}
	v.Byte(2)
	one := api.Read{From: 1, To: 2}
	if !slices.Equal(b, []api.Read{one, one, one}) {
		t.Errorf("Reads share memory: %v", b)
	}
	sameReads(t, w, one, one, one, api.Read{From: 2, To: 3})
}
