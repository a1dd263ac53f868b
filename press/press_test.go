package press

import (
	"bytes"
	"slices"
	"strings"
	"testing"
	"time"

	"colonnade/api"
)

var hows = []int{api.PressNone, api.PressRuns, api.PressBack}

// samePack holds Pack against the model, and all of P6.4 that speaks of one text.
func samePack(t *testing.T, how int, b []byte) {
	t.Helper()
	p, e := Pack(how, b)
	if want := modelPack(how, string(b)); string(p) != want || e != api.OK {
		t.Fatalf("Pack(%d, %.200x) = %.200x, %d, want %.200x", how, b, p, e, want)
	}
	thereAndBack(t, how, b, p)
}

func thereAndBack(t *testing.T, how int, b, p []byte) {
	t.Helper()
	if u, e := Unpack(how, p, len(b)); !bytes.Equal(u, b) || e != api.OK {
		t.Fatalf("Unpack(%d, %.200x, %d) = %.200x, %d, want %.200x", how, p, len(b), u, e, b)
	}
	if n, e := Size(how, p); n != len(b) || e != api.OK {
		t.Fatalf("Size(%d, %.200x) = %d, %d, want %d", how, p, n, e, len(b))
	}
	if most := len(b) + (len(b)+127)/128; len(p) > most {
		t.Fatalf("Pack(%d, %.200x) has %d bytes, more than %d", how, b, len(p), most)
	}
}

// sameUnpack holds Unpack and Size against the models, and against each other.
func sameUnpack(t *testing.T, how int, p []byte, raw int) {
	t.Helper()
	want, we := modelUnpack(how, string(p), raw)
	u, e := Unpack(how, p, raw)
	if string(u) != want || e != we {
		t.Fatalf("Unpack(%d, %.200x, %d) = %.200x, %d, want %.200x, %d", how, p, raw, u, e, want, we)
	}
	wn, we := modelSize(how, string(p))
	n, se := Size(how, p)
	if n != wn || se != we {
		t.Fatalf("Size(%d, %.200x) = %d, %d, want %d, %d", how, p, n, se, wn, we)
	}
	if (e == api.OK) != (se == api.OK && n == raw) {
		t.Fatalf("of %d, %.200x, %d: Unpack tells %d, Size %d, %d", how, p, raw, e, n, se)
	}
}

// each goes through all texts of some letters up to a length.
func each(letters string, most int, look func(b []byte)) {
	var b []byte
	var longer func()
	longer = func() {
		look(b)
		if len(b) == most {
			return
		}
		for _, c := range []byte(letters) {
			b = append(b, c)
			longer()
			b = b[:len(b)-1]
		}
	}
	longer()
}

// P6.1 and P6.4, of all short texts.
func TestPackEachShortText(t *testing.T) {
	for _, how := range hows {
		each("ab", 12, func(b []byte) { samePack(t, how, b) })
		each("a\x00\xff", 8, func(b []byte) { samePack(t, how, b) })
	}
}

// P6.1 and P6.4, at the lengths of items.
func TestPackEdges(t *testing.T) {
	var unlike []byte // no four bytes of it stand twice, and no three neighbours are alike
	for i := range 256 {
		unlike = append(unlike, byte(i), byte(i*7+3))
	}
	for _, how := range hows {
		for n := range len(unlike) + 1 {
			samePack(t, how, unlike[:n])
		}
		for n := range 400 {
			run := strings.Repeat("x", n)
			for _, s := range []string{run, "a" + run, run + "b", "ab" + run + "c", run + "yy" + run, string(unlike[:127]) + run, string(unlike[:128]) + run, string(unlike[:129]) + run} {
				samePack(t, how, []byte(s))
			}
			samePack(t, how, append(unlike[:n:n], unlike[:n]...))
			samePack(t, how, append(append(unlike[:n:n], 'q'), unlike[:n]...))
		}
	}
}

// P6.1 and P6.4
func TestPackTexts(t *testing.T) {
	c := newChance(1)
	for range 1500 {
		b := c.text(c.Intn(700))
		for _, how := range hows {
			samePack(t, how, b)
		}
	}
}

// P6.1: the latest place is meant, not the first one, nor that of the longest.
func TestPackLatestPlace(t *testing.T) {
	p, e := Pack(api.PressBack, []byte("abcdefg-abcdx+abcdefg"))
	if want := "\x07abcdefg-\x80\x07\x00\x01x+\x80\x05\x00\x02efg"; string(p) != want || e != api.OK {
		t.Errorf("%q, %d", p, e)
	}
}

// ofLength are texts of MaxBytes bytes, or about so many, of unlike kinds; far has its first four bytes again at its end.
func ofLength(n int) [][]byte {
	c := newChance(int64(n))
	noise := make([]byte, n)
	for i := range noise {
		noise[i] = byte(c.Intn(256))
	}
	rising := make([]byte, n)
	for i := range rising {
		rising[i] = byte(i >> (8 * (i % 2)))
	}
	far := slices.Clone(rising)
	copy(far, "\xff\xfe\xfd\xfc")
	copy(far[n-4:], "\xff\xfe\xfd\xfc")
	return [][]byte{make([]byte, n), noise, rising, far, c.text(n), c.text(n)}
}

// P6.1 and P6.4: just MaxBytes are allowed, and the farthest places are met.
func TestPackMost(t *testing.T) {
	for _, how := range hows {
		for _, n := range []int{65535, 65536} {
			for _, b := range ofLength(n) {
				p, e := Pack(how, b)
				if e != api.OK {
					t.Fatalf("Pack(%d, %d bytes): %d", how, n, e)
				}
				thereAndBack(t, how, b, p)
			}
		}
		for _, n := range []int{65537, 70000, 1 << 20} {
			if p, e := Pack(how, make([]byte, n)); len(p) != 0 || e != api.ErrBytes {
				t.Errorf("Pack(%d, %d bytes): %d bytes, %d", how, n, len(p), e)
			}
		}
	}
	far := ofLength(65536)[3]
	p, _ := Pack(api.PressBack, far)
	if end := "\x80\xfb\xff"; !strings.HasSuffix(string(p), end) {
		t.Errorf("the farthest reference: %x", p[len(p)-8:])
	}
	samePack(t, api.PressRuns, ofLength(65536)[4])
	samePack(t, api.PressBack, ofLength(65536)[5][:20000])
}

// P6.1 to P6.3: which hows there are, ahead of all else.
func TestHow(t *testing.T) {
	for _, how := range []int{-1 << 63, -2, -1, 3, 4, 255, 256, 257, 1 << 32, 1<<32 + 1, 1<<63 - 1} {
		for _, b := range [][]byte{nil, []byte("a"), {0}, make([]byte, 70000)} {
			if p, e := Pack(how, b); len(p) != 0 || e != api.ErrArg {
				t.Errorf("Pack(%d): %x, %d", how, p, e)
			}
			for _, raw := range []int{-1, 0, 65537} {
				if u, e := Unpack(how, b, raw); len(u) != 0 || e != api.ErrArg {
					t.Errorf("Unpack(%d): %x, %d", how, u, e)
				}
			}
			if n, e := Size(how, b); n != 0 || e != api.ErrArg {
				t.Errorf("Size(%d): %d, %d", how, n, e)
			}
		}
	}
}

// P6.2: the number that is said, ahead of the items.
func TestRaw(t *testing.T) {
	for _, how := range hows {
		for _, p := range [][]byte{nil, {0}, {0x80}, []byte("\x00a\x80\xff\xff")} {
			for _, raw := range []int{-1 << 63, -1, 0, 65535, 65536, 65537, 1 << 31, 1 << 32, 1<<63 - 1} {
				sameUnpack(t, how, p, raw)
			}
		}
	}
}

// P6.2 and P6.3, of all short bytes out of those that tell items.
func TestUnpackEachShortText(t *testing.T) {
	for _, how := range hows {
		each("\x00\x01\x02\x80\x81\xff", 5, func(p []byte) {
			for raw := range 9 {
				sameUnpack(t, how, p, raw)
			}
			n, _ := Size(how, p)
			sameUnpack(t, how, p, n)
			sameUnpack(t, how, p, n+1)
		})
	}
}

// P6.2 and P6.3: each first byte, with each number of bytes behind it, at each number that is near.
func TestUnpackEachItem(t *testing.T) {
	for _, how := range hows {
		for c := range 256 {
			item := append([]byte{0, 'a', byte(c), 0, 0}, make([]byte, 130)...)
			for _, n := range []int{0, 1, 2, 3, 4, 5, c + 3, c + 4, c + 5} {
				p := item[:min(n, len(item))]
				whole, _, _ := modelOut(how, string(p))
				for raw := max(0, len(whole)-2); raw < len(whole)+3; raw++ {
					sameUnpack(t, how, p, raw)
				}
			}
		}
	}
}

// P6.2 and P6.3, of bytes that go through mostly, and of hurt ones.
func TestUnpackTexts(t *testing.T) {
	c := newChance(2)
	for range 20000 {
		how := hows[c.Intn(3)]
		p := c.items(how)
		whole, _, _ := modelOut(how, string(p))
		for _, raw := range []int{len(whole), len(whole) - 1, len(whole) + 1, c.Intn(len(whole) + 1)} {
			sameUnpack(t, how, p, raw)
		}
	}
	for range 2000 {
		how := hows[c.Intn(3)]
		b := c.text(1 + c.Intn(300))
		p, _ := Pack(how, b)
		p[c.Intn(len(p))] ^= byte(1 << c.Intn(8))
		sameUnpack(t, how, p, len(b))
		sameUnpack(t, how, p[:c.Intn(len(p))], len(b))
	}
}

// P6.2 and P6.3: of one item the cut comes ahead of the place, and that ahead of the number.
func TestUnpackOrder(t *testing.T) {
	for _, c := range []struct {
		how  int
		p    string
		raw  int
		e, s api.Errno
	}{
		{2, "\x80\xff", 0, api.ErrPackCut, api.ErrPackCut},
		{2, "\x80\xff\xff", 0, api.ErrPackBack, api.ErrPackBack},
		{2, "\x80\x00\x00", 4, api.ErrPackBack, api.ErrPackBack},
		{2, "\x00a\x80\x00\x00", 4, api.ErrPackMore, api.OK},
		{2, "\x00a\x80\x00\x00\x80\xff\xff", 4, api.ErrPackMore, api.ErrPackBack},
		{2, "\x00a\x80\x00\x00\x80\xff\xff", 5, api.ErrPackBack, api.ErrPackBack},
		{2, "\x00a\x80\x00\x00\x80\xff", 9, api.ErrPackCut, api.ErrPackCut},
		{1, "\x7fa", 0, api.ErrPackCut, api.ErrPackCut},
		{1, "\x00a\x00", 0, api.ErrPackMore, api.ErrPackCut},
		{1, "\x00a\x00", 1, api.ErrPackCut, api.ErrPackCut},
		{1, "\x00a\x00", 2, api.ErrPackCut, api.ErrPackCut},
	} {
		if u, e := Unpack(c.how, []byte(c.p), c.raw); e != c.e || len(u) != 0 {
			t.Errorf("Unpack(%d, %x, %d) = %x, %d, want %d", c.how, c.p, c.raw, u, e, c.e)
		}
		if _, e := Size(c.how, []byte(c.p)); e != c.s {
			t.Errorf("Size(%d, %x) tells %d, want %d", c.how, c.p, e, c.s)
		}
	}
}

// full are items out of which just n bytes come.
func full(how, n int) []byte {
	if how == api.PressNone {
		return make([]byte, n)
	}
	p := []byte{}
	for ; n%128 != 0; n-- {
		p = append(p, 0, 'a')
	}
	for ; n > 0; n -= 128 {
		p = append(append(p, 127), bytes.Repeat([]byte{'b'}, 128)...)
	}
	return p
}

// P6.3, P6.2: just MaxBytes may come out; what is wrong behind the item that goes beyond is not looked at.
func TestMost(t *testing.T) {
	for _, how := range hows {
		for n := 65534; n <= 65539; n++ {
			sameUnpack(t, how, full(how, n), 65536)
		}
	}
	wrong := map[int]string{api.PressRuns: "\x80", api.PressBack: "\x80\x00"}
	for how, cut := range wrong {
		for n, want := range map[int]api.Errno{65535: api.ErrPackCut, 65536: api.ErrPackCut, 65537: api.ErrBytes} {
			p := append(full(how, n), cut...)
			if k, e := Size(how, p); k != 0 || e != want {
				t.Errorf("Size(%d, items of %d and a cut one): %d, %d", how, n, k, e)
			}
		}
	}
	back := append(full(api.PressBack, 65532), "\x80\xfb\xff"...) // the first four again
	sameUnpack(t, api.PressBack, back, 65536)
	back = append(full(api.PressBack, 65532), "\x80\xfc\xff"...)
	sameUnpack(t, api.PressBack, back, 65536)
	back = append(full(api.PressBack, 65533), "\x80\x00\x00"...)
	sameUnpack(t, api.PressBack, back, 65536)
	back = append(full(api.PressBack, 65536), "\x80\xff\xff"...) // the place 65536 ahead is there, the room isn't
	sameUnpack(t, api.PressBack, back, 65536)
}

// roomy are bytes with spare room behind them, which is filled.
func roomy(b []byte) []byte {
	l := append(slices.Clone(b), bytes.Repeat([]byte{0xEE}, 300)...)
	return l[:len(b)]
}

// apart sees to it that an answer, spare room and all, can be written without a change of what was handed in, and the other way round.
func apart(t *testing.T, in, answer []byte) {
	t.Helper()
	whole, kept := slices.Clone(in[:cap(in)]), slices.Clone(answer)
	for i := range answer[:cap(answer)] {
		answer[:cap(answer)][i] ^= 0xFF
	}
	if !bytes.Equal(in[:cap(in)], whole) {
		t.Fatal("the answer is not new memory")
	}
	copy(answer, kept)
	for i := range in[:cap(in)] {
		in[:cap(in)][i] ^= 0xFF
	}
	if !bytes.Equal(answer, kept) {
		t.Fatal("what was handed in is kept")
	}
}

// P6.5
func TestMemory(t *testing.T) {
	c := newChance(3)
	for range 300 {
		for _, how := range hows {
			b := roomy(c.text(c.Intn(400)))
			whole := slices.Clone(b[:cap(b)])
			p, _ := Pack(how, b)
			packed := roomy(p)
			wholePacked := slices.Clone(packed[:cap(packed)])
			u, _ := Unpack(how, packed, len(b))
			Unpack(how, packed, len(b)+1)
			Unpack(how, packed, len(b)/2)
			Size(how, packed)
			if !bytes.Equal(b[:cap(b)], whole) || !bytes.Equal(packed[:cap(packed)], wholePacked) {
				t.Fatal("what was handed in has changed")
			}
			apart(t, packed, u)
			apart(t, b, p)
		}
	}
}

// P6.5: the same call tells the same; nothing hangs on a map's order.
func TestOneAnswer(t *testing.T) {
	b := newChance(4).text(5000)
	first, _ := Pack(api.PressBack, b)
	for range 20 {
		if p, _ := Pack(api.PressBack, b); !bytes.Equal(p, first) {
			t.Fatal("the same bytes are packed in two ways")
		}
	}
}

// P6.5: whoever compares all places with all others needs many times as long as is allowed here.
func TestTime(t *testing.T) {
	start := time.Now()
	for range 10 {
		for _, b := range ofLength(65536) {
			for _, how := range hows {
				p, _ := Pack(how, b)
				Unpack(how, p, len(b))
				Size(how, p)
			}
		}
	}
	if d := time.Since(start); d > 40*time.Second {
		t.Errorf("it took %v", d)
	}
	// Of very many bytes no more are looked at than can come out.
	long := make([]byte, 1<<26)
	start = time.Now()
	for range 200 {
		for _, how := range hows {
			Unpack(how, long, 65536)
			Size(how, long)
		}
	}
	if d := time.Since(start); d > 40*time.Second {
		t.Errorf("it took %v", d)
	}
}
