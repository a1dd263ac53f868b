package bits

import (
	"slices"
	"testing"

	"colonnade/api"
)

// The chapter's examples, word by word.
func TestExamplesOneBit(t *testing.T) {
	for _, x := range []struct {
		b    []byte
		i    int
		want bool
		e    api.Errno
	}{
		{[]byte{0x05}, 0, true, api.OK},
		{[]byte{0x05}, 1, false, api.OK},
		{[]byte{0x05}, 8, false, api.ErrRange},
		{[]byte{0x05}, -1, false, api.ErrArg},
		{nil, 0, false, api.ErrRange},
	} {
		if got, e := Get(x.b, x.i); got != x.want || e != x.e {
			t.Errorf("Get(%x, %d) = %v, %d", x.b, x.i, got, e)
		}
	}
}

func TestExamplesMake(t *testing.T) {
	nine := slices.Repeat([]bool{true}, 9)
	if got := Make([]bool{true, false, true, true}); !slices.Equal(got, []byte{0x0D}) {
		t.Errorf("Make of four = %x", got)
	}
	if got := Make(nine); !slices.Equal(got, []byte{0xFF, 0x01}) {
		t.Errorf("Make of nine = %x", got)
	}
	if got := Make(nil); len(got) != 0 {
		t.Errorf("Make of nothing = %x", got)
	}
}

func TestExamplesCount(t *testing.T) {
	for _, x := range []struct {
		from, n, want int
		e             api.Errno
	}{
		{0, 16, 7, api.OK}, {4, 5, 5, api.OK}, {9, 7, 0, api.OK}, {9, 8, 0, api.ErrRange},
		{-1, 99, 0, api.ErrArg}, {16, 0, 0, api.OK}, {17, 0, 0, api.ErrRange}, {99, -1, 0, api.ErrArg},
	} {
		if got, e := Count([]byte{0xF6, 0x01}, x.from, x.n); got != x.want || e != x.e {
			t.Errorf("Count(%d, %d) = %d, %d", x.from, x.n, got, e)
		}
	}
}

func TestExamplesRuns(t *testing.T) {
	b := []byte{0xF6, 0x01}
	for _, x := range []struct {
		from, n int
		want    []int
	}{{0, 16, []int{1, 2, 4, 5}}, {2, 4, []int{0, 1, 2, 2}}, {2, 99, nil}, {-1, 3, nil}, {3, -1, nil}} {
		if got := walked(b, x.from, x.n); !slices.Equal(got, x.want) {
			t.Errorf("Runs(%d, %d) = %v", x.from, x.n, got)
		}
	}
	if got, e := Cut(b, 2, 7); !slices.Equal(got, []byte{0x7D}) || e != api.OK {
		t.Errorf("Cut = %x, %d", got, e)
	}
	if got, e := List(b, 3, 3); !slices.Equal(got, []bool{false, true, true}) || e != api.OK {
		t.Errorf("List = %v, %d", got, e)
	}
}

func TestExamplesNextPlace(t *testing.T) {
	b := []byte{0xF6, 0x01}
	for _, x := range []struct {
		from, n int
		on      bool
		want    int
	}{{0, 16, true, 1}, {4, 5, false, -1}, {4, 6, false, 5}, {0, 17, true, -1}} {
		if got := Next(b, x.from, x.n, x.on); got != x.want {
			t.Errorf("Next(%d, %d, %v) = %d", x.from, x.n, x.on, got)
		}
	}
	for _, x := range []struct {
		from, n, k, want int
		e                api.Errno
	}{
		{0, 16, 0, 1, api.OK}, {0, 16, 2, 4, api.OK}, {2, 14, 2, 3, api.OK},
		{0, 16, 7, 0, api.ErrRange}, {0, 16, -1, 0, api.ErrArg}, {0, 99, -1, 0, api.ErrArg}, {0, -1, 99, 0, api.ErrArg},
	} {
		if got, e := Place(b, x.from, x.n, x.k); got != x.want || e != x.e {
			t.Errorf("Place(%d, %d, %d) = %d, %d", x.from, x.n, x.k, got, e)
		}
	}
}

func TestExamplesJoined(t *testing.T) {
	a, b := []byte{0xF0}, []byte{0x3C}
	check := func(name string, want []byte, we api.Errno) func([]byte, api.Errno) {
		return func(got []byte, e api.Errno) {
			if !slices.Equal(got, want) || e != we {
				t.Errorf("%s = %x, %d", name, got, e)
			}
		}
	}
	check("And", []byte{0x30}, api.OK)(And(a, b, 6))
	check("Or", []byte{0x3C}, api.OK)(Or(a, b, 6))
	check("Xor", []byte{0x0C}, api.OK)(Xor(a, b, 6))
	check("Not", []byte{0x0F}, api.OK)(Not(a, 6))
	check("And of nothing, 0", nil, api.OK)(And(a, nil, 0))
	check("And of nothing, 1", nil, api.ErrRange)(And(a, nil, 1))
	check("Or of nothing, 1", nil, api.ErrRange)(Or(nil, a, 1))
	check("And, -1", nil, api.ErrArg)(And(a, b, -1))
	check("Not, 9", nil, api.ErrRange)(Not(a, 9))
	check("Not, -1", nil, api.ErrArg)(Not(a, -1))
}
