package bits

import (
	"math/big"
	mathbits "math/bits"
	"slices"
	"strings"
	"testing"

	"colonnade/api"
)

const most = 1<<63 - 1
const least = -1 << 63

// edges are numbers around the beginning and the end of a few bits, and the outermost ones.
func edges(n int) []int {
	l := []int{least, least + 1, -8, -1, 1 << 31, 1 << 32, 1 << 60, 1 << 62, most - 7, most - 1, most}
	for i := range n + 10 {
		l = append(l, i)
	}
	return l
}

// maps are lists of bytes of each length up to three, with long and short rows of 1s and 0s, at and across the bytes' ends.
func maps() [][]byte {
	l := [][]byte{nil, {}}
	for c := range 256 {
		l = append(l, []byte{byte(c)})
	}
	few := []byte{0x00, 0xFF, 0x01, 0x80, 0x7F, 0xFE, 0xA5, 0xF6}
	middles := []byte{0x00, 0xFF, 0x24}
	for i, x := range few {
		for k, y := range few {
			l = append(l, []byte{x, y}, []byte{x, middles[(i+k)%3], y})
		}
	}
	return l
}

// letters is the model's map: a text of 0s and 1s, the first bit first.
func letters(b []byte) string {
	var s strings.Builder
	for _, c := range b {
		for range 8 {
			s.WriteByte('0' + c%2)
			c /= 2
		}
	}
	return s.String()
}

// laid is the model's bytes of such a text.
func laid(s string) []byte {
	var b []byte
	for len(s)%8 != 0 {
		s += "0"
	}
	for ; s != ""; s = s[8:] {
		c := 0
		for i := 7; i >= 0; i-- {
			c = 2*c + int(s[i]-'0')
		}
		b = append(b, byte(c))
	}
	return b
}

// asked is the model's piece of a map, and by unbounded numbers whether it is there.
func asked(b []byte, from, n int) (string, api.Errno) {
	if from < 0 || n < 0 {
		return "", api.ErrArg
	}
	end := new(big.Int).Add(big.NewInt(int64(from)), big.NewInt(int64(n)))
	if end.Cmp(big.NewInt(int64(8*len(b)))) > 0 {
		return "", api.ErrRange
	}
	return letters(b)[from : from+n], api.OK
}

// eachAsked goes through all maps, places and numbers.
func eachAsked(look func(b []byte, from, n int, s string, e api.Errno)) {
	for _, b := range maps() {
		for _, from := range edges(8 * len(b)) {
			for _, n := range edges(8 * len(b)) {
				s, e := asked(b, from, n)
				look(b, from, n, s, e)
			}
		}
	}
}

// runsOf is the model's list of runs: of each where it begins and how long it is.
func runsOf(s string) []int {
	var l []int
	for at := 0; at < len(s); {
		long := len(s[at:]) - len(strings.TrimLeft(s[at:], "1"))
		if long > 0 {
			l = append(l, at, long)
		}
		at += long + 1
	}
	return l
}

func walked(b []byte, from, n int) []int {
	var l []int
	for at, long := range Runs(b, from, n) {
		l = append(l, at, long)
	}
	return l
}

// P2.1
func TestNeed(t *testing.T) {
	for _, n := range append(edges(70), 1<<62+1, most-6) {
		want := new(big.Int).Add(big.NewInt(int64(max(n, 0))), big.NewInt(7))
		want.Div(want, big.NewInt(8))
		if got := Need(n); int64(got) != want.Int64() {
			t.Errorf("Need(%d) = %d, want %d", n, got, want)
		}
	}
	if Need(most) != 1<<60 || Need(least) != 0 || Need(9) != 2 || Need(8) != 1 {
		t.Error("the edges of Need")
	}
}

// P2.2
func TestGet(t *testing.T) {
	for _, b := range maps() {
		for _, i := range edges(8 * len(b)) {
			s, e := asked(b, i, 1)
			if got, ge := Get(b, i); got != (s == "1") || ge != e {
				t.Fatalf("Get(%x, %d) = %v, %d", b, i, got, ge)
			}
		}
	}
}

// P2.3 and P2.5; that the one is the sum of the other is P2.10.
func TestCountListCut(t *testing.T) {
	eachAsked(func(b []byte, from, n int, s string, e api.Errno) {
		if got, ge := Count(b, from, n); got != strings.Count(s, "1") || ge != e {
			t.Fatalf("Count(%x, %d, %d) = %d, %d", b, from, n, got, ge)
		}
		l, le := List(b, from, n)
		if le != e || len(l) != len(s) {
			t.Fatalf("List(%x, %d, %d) = %v, %d", b, from, n, l, le)
		}
		for k, on := range l {
			if on != (s[k] == '1') {
				t.Fatalf("List(%x, %d, %d) = %v", b, from, n, l)
			}
		}
		if got, ge := Cut(b, from, n); !slices.Equal(got, laid(s)) || ge != e {
			t.Fatalf("Cut(%x, %d, %d) = %x, %d", b, from, n, got, ge)
		}
	})
}

// P2.4
func TestMake(t *testing.T) {
	for _, b := range maps() {
		s := letters(b)
		for n := range len(s) + 1 {
			l := make([]bool, n)
			for i := range l {
				l[i] = s[i] == '1'
			}
			kept := slices.Clone(l)
			if got := Make(l); !slices.Equal(got, laid(s[:n])) || len(got) != Need(n) {
				t.Fatalf("Make(%v) = %x", l, got)
			}
			if !slices.Equal(l, kept) {
				t.Fatal("Make has changed its list")
			}
		}
	}
}

// P2.6
func TestJoined(t *testing.T) {
	type joiner struct {
		name string
		join func(a, b []byte, n int) ([]byte, api.Errno)
		bit  func(x, y byte) bool
	}
	for _, j := range []joiner{
		{"And", And, func(x, y byte) bool { return x+y == '1'+'1' }},
		{"Or", Or, func(x, y byte) bool { return x+y > '0'+'0' }},
		{"Xor", Xor, func(x, y byte) bool { return x != y }},
		{"Not", func(a, _ []byte, n int) ([]byte, api.Errno) { return Not(a, n) }, func(x, _ byte) bool { return x == '0' }},
	} {
		list := maps()[250:]
		list = append(list, nil, []byte{0x0F}, []byte{0xC3})
		for i, a := range list {
			for _, b := range list[i%7:] {
				if j.name == "Not" {
					b = a
				}
				for _, n := range edges(8 * len(a)) {
					checkJoined(t, j.name, j.join, j.bit, a, b, n)
				}
			}
		}
	}
}

func checkJoined(t *testing.T, name string, join func(a, b []byte, n int) ([]byte, api.Errno), bit func(x, y byte) bool, a, b []byte, n int) {
	x, e := asked(a, 0, n)
	y, be := asked(b, 0, n)
	if e == api.OK {
		e = be
	}
	var s strings.Builder
	for i := 0; e == api.OK && i < n; i++ {
		if bit(x[i], y[i]) {
			s.WriteByte('1')
		} else {
			s.WriteByte('0')
		}
	}
	if got, ge := join(a, b, n); !slices.Equal(got, laid(s.String())) || ge != e {
		t.Fatalf("%s(%x, %x, %d) = %x, %d", name, a, b, n, got, ge)
	}
}

// P2.7
func TestRuns(t *testing.T) {
	eachAsked(func(b []byte, from, n int, s string, e api.Errno) {
		if Runs(b, from, n) == nil {
			t.Fatalf("Runs(%x, %d, %d) is nil", b, from, n)
		}
		if got := walked(b, from, n); !slices.Equal(got, runsOf(s)) {
			t.Fatalf("Runs(%x, %d, %d) = %v", b, from, n, got)
		}
	})
}

// P2.7: it may be left at any point, and gone through again, also within itself.
func TestRunsAgain(t *testing.T) {
	runs := Runs([]byte{0x55, 0x81}, 1, 15)
	want := runsOf(letters([]byte{0x55, 0x81})[1:])
	for stop := range len(want)/2 + 1 {
		var got []int
		for at, long := range runs {
			if len(got) == 2*stop {
				break
			}
			got = append(got, at, long)
			var inner []int
			for at, long := range runs {
				inner = append(inner, at, long)
			}
			if !slices.Equal(inner, want) {
				t.Fatalf("within itself: %v", inner)
			}
		}
		if !slices.Equal(got, want[:2*stop]) {
			t.Fatalf("left after %d: %v", stop, got)
		}
	}
}

// P2.7: it gives what b held when Runs was called.
func TestRunsWrittenInto(t *testing.T) {
	b := []byte{0xF6, 0x01}
	runs := Runs(b, 0, 16)
	b[0] = 0
	var got []int
	for at, long := range runs {
		b[1] = 0xFF
		got = append(got, at, long)
	}
	if !slices.Equal(got, []int{1, 2, 4, 5}) {
		t.Errorf("written into, Runs gives %v", got)
	}
}

// P2.8
func TestNext(t *testing.T) {
	eachAsked(func(b []byte, from, n int, s string, e api.Errno) {
		if got := Next(b, from, n, true); got != strings.Index(s, "1") {
			t.Fatalf("Next(%x, %d, %d, true) = %d", b, from, n, got)
		}
		if got := Next(b, from, n, false); got != strings.Index(s, "0") {
			t.Fatalf("Next(%x, %d, %d, false) = %d", b, from, n, got)
		}
	})
}

// P2.9
func TestPlace(t *testing.T) {
	ks := []int{least, -1, 1 << 62, most}
	for k := range 26 {
		ks = append(ks, k)
	}
	eachAsked(func(b []byte, from, n int, s string, e api.Errno) {
		var places []int
		for i, c := range s {
			if c == '1' {
				places = append(places, i)
			}
		}
		for _, k := range ks {
			want, we := 0, e
			if k < 0 {
				we = api.ErrArg
			} else if e == api.OK && k >= len(places) {
				we = api.ErrRange
			} else if e == api.OK {
				want = places[k]
			}
			if got, ge := Place(b, from, n, k); got != want || ge != we {
				t.Fatalf("Place(%x, %d, %d, %d) = %d, %d", b, from, n, k, got, ge)
			}
		}
	})
}

// P2.10
func TestWhatFollows(t *testing.T) {
	eachAsked(func(b []byte, from, n int, s string, e api.Errno) {
		if e != api.OK {
			return
		}
		all, _ := Count(b, from, n)
		sum := 0
		for _, long := range Runs(b, from, n) {
			sum += long
		}
		if sum != all {
			t.Fatalf("the runs of %x, %d, %d are %d long, and Count tells %d", b, from, n, sum, all)
		}
		for k := range all {
			at, _ := Place(b, from, n, k)
			ahead, _ := Count(b, from, at)
			on, _ := Get(b, from+at)
			if ahead != k || !on || k == 0 && at != Next(b, from, n, true) {
				t.Fatalf("Place(%x, %d, %d, %d) = %d", b, from, n, k, at)
			}
		}
	})
	few := maps()[250:]
	for i, a := range few {
		for _, b := range few[i%5:] {
			n := min(8*len(a), 8*len(b), 3+i%22)
			na, _ := Not(a, n)
			nb, _ := Not(b, n)
			nna, _ := Not(na, n)
			cut, _ := Cut(a, 0, n)
			and, _ := And(na, nb, n)
			or, _ := Or(a, b, n)
			nor, _ := Not(or, n)
			if !slices.Equal(nna, cut) || !slices.Equal(and, nor) {
				t.Fatalf("of %x and %x, %d bits: Not of Not %x, Cut %x; And of Nots %x, Not of Or %x", a, b, n, nna, cut, and, nor)
			}
		}
	}
}

// R3: what is handed in is neither changed nor shared, spare room included.
func TestMemory(t *testing.T) {
	room := []byte{0xF6, 0x01, 0xAA, 0xBB}
	other := []byte{0x3C, 0xFF, 0xCC, 0xDD}
	b, c := room[:2], other[:2]
	var lists [][]byte
	keep := func(l []byte, e api.Errno) {
		if e != api.OK {
			t.Errorf("error %d", e)
		}
		lists = append(lists, l)
	}
	keep(Cut(b, 0, 16))
	keep(Cut(b, 0, 8))
	keep(And(b, b, 16))
	keep(Or(b, c, 16))
	keep(Xor(b, c, 12))
	keep(Not(b, 16))
	kept := make([][]byte, len(lists))
	for i, l := range lists {
		kept[i] = slices.Clone(l)
	}
	for i, l := range lists {
		for k := range l[:cap(l)] {
			l[:cap(l)][k] ^= 0xFF
		}
		for j := range lists {
			if i != j && !slices.Equal(lists[j], kept[j]) {
				t.Errorf("answer %d shares with %d", j, i)
			}
		}
		copy(l, kept[i])
	}
	Count(b, 0, 16)
	Place(b, 0, 16, 3)
	Next(b, 0, 16, false)
	walked(b, 3, 9)
	if !slices.Equal(room, []byte{0xF6, 0x01, 0xAA, 0xBB}) || !slices.Equal(other, []byte{0x3C, 0xFF, 0xCC, 0xDD}) {
		t.Errorf("written into: %x %x", room, other)
	}
}

// The table of the sixteen halves.
func TestOnes(t *testing.T) {
	for c := range 256 {
		if got := ones(byte(c)); got != mathbits.OnesCount8(uint8(c)) {
			t.Errorf("ones(%x) = %d", c, got)
		}
	}
}
