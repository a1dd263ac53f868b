package view

import (
	"bytes"
	"slices"
	"strings"
	"testing"

	"colonnade/api"
)

func sameInk(t *testing.T, k *Ink, want string) {
	t.Helper()
	if got := string(k.Bytes()); got != want || k.Len() != len(want) {
		t.Errorf("Bytes: %x (Len %d), want %x", got, k.Len(), want)
	}
}

func sameErr(t *testing.T, what string, got, want api.Errno) {
	t.Helper()
	if got != want {
		t.Errorf("%s: %d, want %d", what, got, want)
	}
}

// P1.1, the chapter's example 5.
func TestInkExample(t *testing.T) {
	k := NewInk(8)
	sameInk(t, k, "")
	sameErr(t, "Number(0x1234, 2)", k.Number(0x1234, 2), api.OK)
	sameErr(t, "Number(0x1ff, 1)", k.Number(0x1ff, 1), api.OK)
	sameErr(t, "Pad(4)", k.Pad(4), api.OK)
	sameInk(t, k, "\x34\x12\xff\x00")
	sameErr(t, "Fill(5, 7)", k.Fill(5, 7), api.ErrBytes)
	sameErr(t, "Fill(-1, 7)", k.Fill(-1, 7), api.ErrArg)
	sameErr(t, "Number(1, 8)", k.Number(1, 8), api.ErrBytes)
	sameInk(t, k, "\x34\x12\xff\x00")
	sameErr(t, "Text(ab)", k.Text("ab"), api.OK)
	sameInk(t, k, "\x34\x12\xff\x00ab")
	sameErr(t, "Pad(8)", k.Pad(8), api.OK)
	sameErr(t, "Pad(16)", k.Pad(16), api.ErrBytes)
	sameErr(t, "Pad(0)", k.Pad(0), api.ErrArg)
	sameErr(t, "Pad(65)", k.Pad(65), api.ErrArg)
	sameInk(t, k, "\x34\x12\xff\x00ab\x00\x00")
}

// P1.1: the bound is kept to the byte, and a refused call lays nothing.
func TestInkBound(t *testing.T) {
	for bound := range 12 {
		for laid := range bound + 1 {
			for n := range 14 {
				checkBound(t, bound, laid, n)
			}
			for _, n := range []int{1 << 32, 1 << 62, most} {
				k := NewInk(bound)
				k.Fill(laid, 1)
				sameErr(t, "Fill of very many", k.Fill(n, 2), api.ErrBytes)
				sameInk(t, k, strings.Repeat("\x01", laid))
			}
		}
	}
}

func checkBound(t *testing.T, bound, laid, n int) {
	t.Helper()
	want, more := api.OK, n
	if laid+n > bound {
		want, more = api.ErrBytes, 0
	}
	before := strings.Repeat("\x01", laid)
	k := NewInk(bound)
	sameErr(t, "Fill up", k.Fill(laid, 1), api.OK)
	sameErr(t, "Fill", k.Fill(n, 2), want)
	sameInk(t, k, before+strings.Repeat("\x02", more))
	k = NewInk(bound)
	sameErr(t, "Text up", k.Text(before), api.OK)
	sameErr(t, "Text", k.Text(strings.Repeat("x", n)), want)
	sameInk(t, k, before+strings.Repeat("x", more))
	if slices.Contains([]int{1, 2, 4, 8}, n) {
		k = NewInk(bound)
		k.Fill(laid, 1)
		sameErr(t, "Number", k.Number(0, n), want)
		sameInk(t, k, before+strings.Repeat("\x00", more))
	}
}

// P1.1: Pad lays as few bytes 0 as there can be, or none at all.
func TestPad(t *testing.T) {
	for to := 1; to <= 64; to++ {
		for laid := range 130 {
			up := laid
			for up%to != 0 {
				up++
			}
			k := NewInk(up)
			k.Fill(laid, 7)
			sameErr(t, "Pad", k.Pad(to), api.OK)
			sameInk(t, k, strings.Repeat("\x07", laid)+strings.Repeat("\x00", up-laid))
			if up > laid {
				k = NewInk(up - 1)
				k.Fill(laid, 7)
				sameErr(t, "Pad beyond the bound", k.Pad(to), api.ErrBytes)
				sameInk(t, k, strings.Repeat("\x07", laid))
			}
		}
	}
}

// P1.1: a number that may not be is told ahead of the bound.
func TestInkWrongNumbers(t *testing.T) {
	for _, bound := range []int{0, 100} {
		k := NewInk(bound)
		for _, n := range edges(8) {
			if !slices.Contains([]int{1, 2, 4, 8}, n) {
				sameErr(t, "Number", k.Number(1, n), api.ErrArg)
			}
			if n < 0 {
				sameErr(t, "Fill", k.Fill(n, 1), api.ErrArg)
			}
			if n < 1 || n > 64 {
				sameErr(t, "Pad", k.Pad(n), api.ErrArg)
			}
		}
		sameInk(t, k, "")
	}
}

// P1.1: a bound below 0 is 0, one above MaxFile is MaxFile.
func TestInkBoundIsCut(t *testing.T) {
	for _, bound := range []int{least, -3, -1, 0} {
		k := NewInk(bound)
		sameErr(t, "Text of nothing", k.Text(""), api.OK)
		sameErr(t, "Fill of nothing", k.Fill(0, 1), api.OK)
		sameErr(t, "Pad of nothing", k.Pad(8), api.OK)
		sameErr(t, "Text", k.Text("a"), api.ErrBytes)
		sameInk(t, k, "")
	}
	for _, bound := range []int{api.MaxFile, api.MaxFile + 1, most} {
		k := NewInk(bound)
		sameErr(t, "Fill beyond MaxFile", k.Fill(api.MaxFile+1, 1), api.ErrBytes)
		sameErr(t, "Fill to MaxFile", k.Fill(api.MaxFile, 1), api.OK)
		sameErr(t, "one more", k.Fill(1, 1), api.ErrBytes)
		if k.Len() != api.MaxFile {
			t.Errorf("Len: %d", k.Len())
		}
	}
}

// P1.4: what Number laid down Load and Signed tell, cut to the width.
func TestThereAndBack(t *testing.T) {
	for _, width := range []int{1, 2, 4, 8} {
		for _, x := range []uint64{0, 1, 0x7f, 0x80, 0xff, 0x100, 0x7fff, 0x8000, 0xffff, 0x7fffffff, 0x80000000, 0xffffffff, 1 << 40, 0x0123456789abcdef, 1<<63 - 1, 1 << 63, 1<<64 - 1} {
			for at := range 5 {
				k := NewInk(64)
				k.Fill(at, 0xa5)
				sameErr(t, "Number", k.Number(x, width), api.OK)
				k.Fill(3, 0xa5)
				v := Of(k.Bytes())
				cut := x << (64 - 8*width) >> (64 - 8*width)
				if y, e := v.Load(at, width); y != cut || e != api.OK {
					t.Errorf("Load of %x in %d: %x, %d", x, width, y, e)
				}
				if y, e := v.Signed(at, width); y != asSigned(x, width) || e != api.OK {
					t.Errorf("Signed of %x in %d: %d, %d", x, width, y, e)
				}
				if v.Len() != at+width+3 {
					t.Errorf("Number in %d bytes laid %d", width, v.Len()-at-3)
				}
			}
		}
	}
}

func asSigned(x uint64, width int) int64 {
	switch width {
	case 1:
		return int64(int8(x))
	case 2:
		return int64(int16(x))
	case 4:
		return int64(int32(x))
	}
	return int64(x)
}

// P1.5: Bytes is new memory, spare room too, and what is laid later does not reach it.
func TestBytesAreNewMemory(t *testing.T) {
	k := NewInk(64)
	k.Text("abc")
	a, b := k.Bytes(), k.Bytes()
	k.Text("d")
	a = a[:cap(a)]
	for i := range a {
		a[i] = 'x'
	}
	if !bytes.Equal(b, []byte("abc")) {
		t.Errorf("Bytes share memory: %s", b)
	}
	sameInk(t, k, "abcd")
}
