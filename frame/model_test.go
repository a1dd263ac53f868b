package frame

import (
	"bytes"
	"encoding/binary"
	"hash/fnv"
	"math/rand"
	"strings"
	"testing"

	"colonnade/api"
)

var widest = api.Limits{Meta: api.MaxMeta, Body: api.MaxBody}

// fnvOf is the chapter's sum, by the library's hand.
func fnvOf(b []byte) uint32 {
	h := fnv.New32a()
	h.Write(b)
	return h.Sum32()
}

// forged is a message's bytes with what its head says of them chosen freely; the head's sum is right.
func forged(mark string, m, b int, bodySum uint32, zeros, rest string) []byte {
	x := []byte(mark)
	x = binary.LittleEndian.AppendUint32(x, uint32(m))
	x = binary.LittleEndian.AppendUint32(x, uint32(b))
	x = binary.LittleEndian.AppendUint32(x, fnvOf(x))
	x = binary.LittleEndian.AppendUint32(x, bodySum)
	return append(append(x, zeros...), rest...)
}

const noBytes = "\x00\x00\x00\x00"

func zerosBehind(n int) string { return strings.Repeat("\x00", -n&7) }

func modelPut(meta, body string) []byte {
	rest := meta + zerosBehind(len(meta)) + body + zerosBehind(len(body))
	return forged("COL1", len(meta), len(body), fnvOf([]byte(meta+body)), noBytes, rest)
}

func modelClose() []byte { return forged("COL0", 0, 0, fnvOf(nil), noBytes, "") }

// modelOne looks at the last one of some bytes of a message, all those ahead of which were right: whether it is wrong, and whether the message is whole with it.
func modelOne(b []byte, l api.Limits) (whole bool, e api.Errno) {
	n := len(b)
	if n <= 4 {
		if !strings.HasPrefix("COL1", string(b)) && !strings.HasPrefix("COL0", string(b)) {
			return false, api.ErrMark
		}
		return false, 0
	}
	if n < 16 {
		return false, 0
	}
	m, d := int(binary.LittleEndian.Uint32(b[4:])), int(binary.LittleEndian.Uint32(b[8:]))
	if n == 16 {
		switch {
		case binary.LittleEndian.Uint32(b[12:]) != fnvOf(b[:12]):
			return false, api.ErrSum
		case m > l.Meta || d > l.Body:
			return false, api.ErrLimit
		case b[3] == '0' && m+d > 0:
			return false, api.ErrForm
		}
		return false, 0
	}
	bodyFrom := 24 + m + len(zerosBehind(m))
	last := bodyFrom + d + len(zerosBehind(d))
	isZero := n > 20 && n <= 24 || n > 24+m && n <= bodyFrom || n > bodyFrom+d
	if isZero && b[n-1] != 0 {
		return false, api.ErrForm
	}
	if n < last {
		return false, 0
	}
	if binary.LittleEndian.Uint32(b[16:]) != fnvOf([]byte(string(b[24:24+m])+string(b[bodyFrom:bodyFrom+d]))) {
		return false, api.ErrSum
	}
	return true, 0
}

// model is a reader that keeps all it was fed, and goes through it anew at each call.
type model struct {
	limits api.Limits
	fed    []byte
	shut   bool
	told   int
}

// walk tells the whole messages, where each begins (and where the next one would), and how it stands behind them.
func (r *model) walk() (l []api.Message, at []int, how int, e api.Errno) {
	from := 0
	at = append(at, 0)
	for to := 1; to <= len(r.fed); to++ {
		b := r.fed[from:to]
		whole, e := modelOne(b, r.limits)
		if e != 0 {
			return l, at, Wrong, e
		}
		if !whole {
			continue
		}
		if b[3] == '0' {
			if to < len(r.fed) {
				return l, at, Wrong, api.ErrTail
			}
			return l, at, End, 0
		}
		m, d := int(binary.LittleEndian.Uint32(b[4:])), int(binary.LittleEndian.Uint32(b[8:]))
		bodyFrom := 24 + m + len(zerosBehind(m))
		l = append(l, api.Message{Meta: b[24 : 24+m], Body: b[bodyFrom : bodyFrom+d]})
		from = to
		at = append(at, to)
	}
	if r.shut {
		return l, at, Wrong, api.ErrCut
	}
	return l, at, More, 0
}

func (r *model) Feed(b []byte) api.Errno {
	if r.shut {
		return api.ErrEnded
	}
	r.fed = append(r.fed, b...)
	return 0
}

func (r *model) Shut() api.Errno {
	if r.shut {
		return api.ErrEnded
	}
	r.shut = true
	return 0
}

func (r *model) Next() (api.Message, int, api.Errno) {
	l, _, how, e := r.walk()
	if r.told < len(l) {
		r.told++
		return l[r.told-1], One, 0
	}
	return api.Message{}, how, e
}

func (r *model) Held() int {
	l, at, how, _ := r.walk()
	if r.told == len(l) && how != More {
		return 0
	}
	return len(r.fed) - at[r.told]
}

// pair is a reader and its model; each call holds the one against the other.
type pair struct {
	t testing.TB
	r *Reader
	m *model
}

func newPair(t testing.TB, l api.Limits) pair {
	t.Helper()
	r, e := NewReader(l)
	if r == nil || e != api.OK {
		t.Fatalf("NewReader(%v): %d", l, e)
	}
	return pair{t, r, &model{limits: l}}
}

func (p pair) feed(b []byte) {
	p.t.Helper()
	if got, want := p.r.Feed(b), p.m.Feed(b); got != want {
		p.t.Fatalf("behind %x: Feed(%x) = %d, want %d", p.m.fed, b, got, want)
	}
}

func (p pair) shut() {
	p.t.Helper()
	if got, want := p.r.Shut(), p.m.Shut(); got != want {
		p.t.Fatalf("behind %x: Shut = %d, want %d", p.m.fed, got, want)
	}
}

func (p pair) held() {
	p.t.Helper()
	if got, want := p.r.Held(), p.m.Held(); got != want {
		p.t.Fatalf("behind %x (limits %v), %d told: Held = %d, want %d", p.m.fed, p.m.limits, p.m.told, got, want)
	}
}

func (p pair) next() (how int) {
	p.t.Helper()
	m, how, e := p.r.Next()
	wm, whow, we := p.m.Next()
	if !bytes.Equal(m.Meta, wm.Meta) || !bytes.Equal(m.Body, wm.Body) || how != whow || e != we {
		p.t.Fatalf("behind %x (limits %v): Next = %x, %d, %d, want %x, %d, %d", p.m.fed, p.m.limits, m, how, e, wm, whow, we)
	}
	return how
}

// rest asks for all that is left.
func (p pair) rest() {
	p.t.Helper()
	p.held()
	for p.next() == One {
		p.held()
	}
	p.next()
	p.held()
}

// chance makes streams, right ones and hurt ones.
type chance struct{ *rand.Rand }

func newChance(seed int64) chance { return chance{rand.New(rand.NewSource(seed))} }

func (c chance) text(most int) string {
	b := make([]byte, c.Intn(most+1))
	for i := range b {
		b[i] = byte(c.Intn(256)) * byte(c.Intn(2))
	}
	return string(b)
}

// stream is some messages, mostly with the end behind them.
func (c chance) stream() []byte {
	var b []byte
	for range c.Intn(4) {
		b = append(b, modelPut(c.text(20), c.text(20))...)
	}
	if c.Intn(4) > 0 {
		b = append(b, modelClose()...)
	}
	return b
}

// anyHead is a message in which lengths, sums and zeros may be wrong, each by itself.
func (c chance) anyHead() []byte {
	mark := []string{"COL1", "COL1", "COL0", "COL2"}[c.Intn(4)]
	meta, body := c.text(12), c.text(12)
	if mark == "COL0" && c.Intn(2) == 0 {
		meta, body = "", ""
	}
	bodySum := fnvOf([]byte(meta + body))
	if c.Intn(4) == 0 {
		bodySum++
	}
	zeros := []byte(noBytes)
	rest := []byte(meta + zerosBehind(len(meta)) + body + zerosBehind(len(body)))
	if c.Intn(4) == 0 {
		zeros[c.Intn(4)]++
	}
	if len(rest) > 0 && c.Intn(4) == 0 {
		rest[c.Intn(len(rest))]++
	}
	return forged(mark, len(meta), len(body), bodySum, string(zeros), string(rest))
}

// hurt turns, takes out or puts in a few bytes.
func (c chance) hurt(b []byte) []byte {
	b = bytes.Clone(b)
	for range c.Intn(3) {
		at := c.Intn(len(b) + 1)
		switch c.Intn(4) {
		case 0:
			b = append(b[:at:at], append([]byte{byte(c.Intn(256))}, b[at:]...)...)
		case 1:
			b = b[:at]
		default:
			if at < len(b) {
				b[at] ^= byte(1 << c.Intn(8))
			}
		}
	}
	return b
}

func (c chance) limits() api.Limits {
	if c.Intn(2) == 0 {
		return api.Limits{Meta: c.Intn(25), Body: c.Intn(25)}
	}
	return widest
}
