package array

import (
	"encoding/binary"
	"math"
	"slices"
	"strings"
	"testing"
	"unicode/utf8"

	"colonnade/api"
)

// modelCheck is the chapter's list of what is wrong with an array, of a field that may be.
func modelCheck(f api.Field, d api.Data, way ...int) api.Fault {
	told := func(e api.Errno, at int) api.Fault { return api.Fault{Err: e, Path: way, At: at} }
	t := f.Type
	buffers, children, dicts := modelBuffers[t.Kind], len(t.Fields), 0
	if modelWidths[t.Kind] > 0 {
		buffers = 2
	}
	switch t.Kind {
	case api.Dict:
		children, dicts = 0, 1
	case api.Runs:
		children = 2
	}
	if len(d.Buffers) != buffers || len(d.Children) != children || len(d.Dict) != dicts {
		return told(80, 0)
	}
	if d.Length < 0 || d.Offset < 0 || d.Nulls < 0 || d.Nulls > d.Length {
		return told(81, 0)
	}
	if d.Length > 4096 || d.Offset > 4096 || d.Length+d.Offset > 4096 {
		return told(3, 0)
	}
	for k, b := range d.Buffers {
		if len(b) > 65536 {
			return told(4, k)
		}
	}
	if at := modelSmall(f, d); at >= 0 {
		return told(82, at)
	}
	if n := modelNulls(f, d, d.Offset, d.Length); n != d.Nulls || n > 0 && !f.Nullable {
		return told(81, 1)
	}
	if e, at := modelRows(f, d); e != 0 {
		return told(e, at)
	}
	fields, parts := modelParts(f, d)
	for k := range parts {
		if x := modelCheck(fields[k], parts[k], append(slices.Clone(way), k)...); x.Err != 0 {
			return x
		}
	}
	if e, at := modelEnds(f, d); e != 0 {
		return told(e, at)
	}
	weight := 0
	for i := range d.Length {
		v, _ := modelRow(spot{f, d, i})
		weight += modelWeight(v)
	}
	if weight > 4194304 {
		return told(3, 1)
	}
	return api.Fault{}
}

// modelSmall tells the first thing that is too small; -1: none is.
func modelSmall(f api.Field, d api.Data) int {
	end, t := d.Offset+d.Length, f.Type
	bytesOf := func(k int) int {
		switch {
		case k == 0 && modelMasked(t.Kind):
			if len(d.Buffers[0]) == 0 {
				return 0
			}
			return (end + 7) / 8
		case t.Kind == api.Bool:
			return (end + 7) / 8
		case t.Kind == api.Choice:
			return end * (1 + 3*k)
		case t.Kind == api.List || (t.Kind == api.Text || t.Kind == api.Bytes) && k == 1:
			return 4*end + 4
		case t.Kind == api.Text || t.Kind == api.Bytes:
			return 0
		}
		return end * modelWidth(t)
	}
	for k, b := range d.Buffers {
		if len(b) < bytesOf(k) {
			return k
		}
	}
	for k, p := range d.Children {
		if t.Kind == api.Span && p.Length < end*t.Width || t.Kind == api.Struct && p.Length < end {
			return len(d.Buffers) + k
		}
	}
	return -1
}

// modelRows tells what is wrong with the bytes of the rows, parts known by their Lengths.
func modelRows(f api.Field, d api.Data) (api.Errno, int) {
	b := d.Buffers
	switch k := f.Type.Kind; k {
	case api.Text, api.Bytes, api.List:
		most := 0
		if k == api.List {
			most = d.Children[0].Length
		} else {
			most = len(b[2])
		}
		for i := range d.Length + 1 {
			x := modelOffset(b[1], d.Offset+i)
			if x < 0 || x > most || i > 0 && x < modelOffset(b[1], d.Offset+i-1) {
				return 83, i
			}
		}
		for i := range d.Length {
			r := d.Offset + i
			if k == api.Text && !modelOff(f, d, r) && !utf8.Valid(b[2][modelOffset(b[1], r):modelOffset(b[1], r+1)]) {
				return 84, i
			}
		}
	case api.Choice, api.Dict:
		for i := range d.Length {
			if _, ok := modelFrom(spot{f, d, i}); ok || modelOff(f, d, d.Offset+i) {
				continue
			}
			switch {
			case k == api.Dict:
				return 86, i
			case int(b[0][d.Offset+i]) >= len(d.Children):
				return 85, i
			}
			return 83, i
		}
	}
	return 0, 0
}

// modelEnds tells what is wrong with the ends of a Runs.
func modelEnds(f api.Field, d api.Data) (api.Errno, int) {
	if f.Type.Kind != api.Runs {
		return 0, 0
	}
	e := d.Children[0]
	if e.Length != d.Children[1].Length {
		return 6, 0
	}
	l := []int{0}
	for k := range e.Length {
		l = append(l, modelOffset(e.Buffers[1], e.Offset+k))
		if l[k+1] <= 0 || l[k+1] <= l[k] {
			return 87, k
		}
	}
	if l[e.Length] < d.Offset+d.Length {
		return 87, e.Length
	}
	return 0, 0
}

func sameFault(a, b api.Fault) bool {
	return a.Err == b.Err && a.At == b.At && slices.Equal(a.Path, b.Path)
}

// told asks Check and Open, and tells what they answer.
func told(t *testing.T, f api.Field, d api.Data) api.Fault {
	t.Helper()
	x := Check(f, d)
	a, y := Open(f, d)
	if !sameFault(x, y) || (a == nil) != (x.Err != api.OK) {
		t.Errorf("Check tells %v, Open %v, %v", x, a, y)
	}
	return x
}

func wantFault(t *testing.T, f api.Field, d api.Data, e api.Errno, at int, way ...int) {
	t.Helper()
	if x := told(t, f, d); !sameFault(x, api.Fault{Err: e, Path: way, At: at}) {
		t.Errorf("told %v, want %d at %d, way %v", x, e, at, way)
	}
}

// P8.1: arrays that lie anyhow are arrays; hurt ones are told as the chapter lists it.
func TestCheck(t *testing.T) {
	met := map[[2]int]int{}
	for seed := range int64(9000) {
		c := newChance(seed)
		f := c.field()
		d := c.array(f, c.Intn(9))
		if x := told(t, f, d); !sameFault(x, api.Fault{}) {
			t.Fatalf("seed %d: %v of an array", seed, x)
		}
		for range 6 {
			hurt := copiedData(d)
			for range 1 + c.Intn(3) {
				c.hurt(&hurt)
			}
			x, want := told(t, f, hurt), modelCheck(f, hurt)
			if !sameFault(x, want) {
				t.Fatalf("seed %d: %v, want %v, of %v as %v", seed, x, want, hurt, f)
			}
			met[[2]int{int(x.Err), min(x.At, 1)}]++
		}
	}
	for _, e := range [][2]int{{0, 0}, {80, 0}, {81, 0}, {81, 1}, {3, 0}, {82, 0}, {82, 1}, {83, 0}, {83, 1}, {84, 0}, {84, 1}, {85, 0}, {85, 1}, {86, 0}, {86, 1}, {6, 0}, {87, 0}, {87, 1}} {
		if met[e] < 5 {
			t.Errorf("error %d (at %d) came %d times", e[0], e[1], met[e])
		}
	}
}

// P8.1: a field that may not be comes ahead of all that is wrong with an array.
func TestCheckType(t *testing.T) {
	ring := make([]api.Field, 1)
	ring[0] = with("r", api.List, ring...)
	ring[0].Type.Fields = ring
	wrong := api.Data{Length: -1, Buffers: make([][]byte, 9)}
	for _, f := range []api.Field{{}, plainField("a", 21), plainField("9", api.Bool), plainField("a", api.Null), plainField("a", api.List), ring[0], maybe(with("c", api.Choice, plainField("a", api.Bool))), with("l", api.List, plainField("", api.Bool))} {
		wantFault(t, f, wrong, api.ErrType, 0)
		wantFault(t, f, api.Data{}, api.ErrType, 0)
	}
}

// P8.1: arrays that hold themselves are looked into as deep as their field is.
func TestCheckRings(t *testing.T) {
	parts := make([]api.Data, 1)
	parts[0] = api.Data{Buffers: [][]byte{nil, int32s(0)}, Children: parts}
	f := plainField("a", api.Int8)
	way := []int{}
	for range 40 {
		f = with("l", api.List, f)
		way = append(way, 0)
	}
	wantFault(t, f, parts[0], api.ErrShape, 0, way...)
	parts[0] = api.Data{Length: 1, Buffers: [][]byte{nil}, Children: parts}
	f = plainField("a", api.Int8)
	for range 40 {
		f = with("s", api.Struct, f)
	}
	wantFault(t, f, parts[0], api.ErrShape, 0, way...)
}

// numbersData is n numbers of a width, of which nothing else is to be said.
func numbersData(n, width int) api.Data {
	return api.Data{Length: n, Buffers: [][]byte{nil, make([]byte, n*width)}}
}

// P8.1: limits are kept to the row and to the byte.
func TestCheckLimits(t *testing.T) {
	f := plainField("a", api.Int8)
	at := func(offset, length int) api.Data {
		return api.Data{Length: length, Offset: offset, Buffers: [][]byte{nil, make([]byte, 65536)}}
	}
	wantFault(t, f, at(0, 4096), 0, 0)
	wantFault(t, f, at(4096, 0), 0, 0)
	wantFault(t, f, at(4095, 1), 0, 0)
	wantFault(t, f, at(0, 4097), api.ErrRows, 0)
	wantFault(t, f, at(4097, 0), api.ErrRows, 0)
	wantFault(t, f, at(4095, 2), api.ErrRows, 0)
	wantFault(t, f, at(math.MaxInt, 1), api.ErrRows, 0)
	wantFault(t, f, at(1, math.MaxInt), api.ErrRows, 0)
	wantFault(t, f, at(math.MaxInt, math.MaxInt), api.ErrRows, 0)
	wantFault(t, f, at(math.MinInt, math.MaxInt), api.ErrLength, 0)
	wantFault(t, f, at(0, math.MinInt), api.ErrLength, 0)

	g := plainField("a", api.Bytes)
	for k := range 3 {
		d := api.Data{Buffers: [][]byte{make([]byte, 65536), make([]byte, 65536), make([]byte, 65536)}}
		wantFault(t, g, d, 0, 0)
		d.Buffers[k] = make([]byte, 65537)
		wantFault(t, g, d, api.ErrBytes, k)
	}
	// ErrBytes of a later buffer comes ahead of ErrSmall of an earlier one.
	wantFault(t, g, api.Data{Buffers: [][]byte{nil, nil, make([]byte, 65537)}}, api.ErrBytes, 2)
	// ErrRows comes ahead of both.
	wantFault(t, g, api.Data{Length: 4097, Buffers: [][]byte{nil, nil, make([]byte, 65537)}}, api.ErrRows, 0)
}

// P8.1: each buffer may have just as many bytes as its rows need, and none less; a validity none at all.
func TestCheckSmall(t *testing.T) {
	for seed := range int64(3000) {
		c := newChance(seed)
		f := c.field()
		d := c.array(f, c.Intn(9))
		least := copiedData(d)
		for k, b := range d.Buffers {
			for n := range len(b) + 1 {
				d.Buffers[k] = b[:n]
				if x, want := told(t, f, d), modelCheck(f, d); !sameFault(x, want) {
					t.Fatalf("seed %d: %d bytes of buffer %d: %v, want %v", seed, n, k, x, want)
				}
			}
			d.Buffers[k] = b
		}
		for k := range least.Children {
			for n := -1; n <= d.Children[k].Length+1; n++ {
				least.Children[k].Length = n
				if x, want := told(t, f, least), modelCheck(f, least); !sameFault(x, want) {
					t.Fatalf("seed %d: %d rows of child %d: %v, want %v", seed, n, k, x, want)
				}
			}
			least.Children[k].Length = d.Children[k].Length
		}
	}
}

// P8.1: without rows an offset is asked for all the same, and a part's Length below 0 is looked at as it says.
func TestCheckNoRows(t *testing.T) {
	item := plainField("i", api.Int8)
	none := api.Data{Length: -1, Buffers: [][]byte{nil, nil}}
	l := with("l", api.List, item)
	wantFault(t, l, api.Data{Buffers: [][]byte{nil, {0, 0, 0}}, Children: []api.Data{none}}, api.ErrSmall, 1)
	wantFault(t, l, api.Data{Buffers: [][]byte{nil, int32s(0)}, Children: []api.Data{none}}, api.ErrOffsets, 0)
	wantFault(t, l, api.Data{Buffers: [][]byte{nil, int32s(0)}, Children: []api.Data{numbersData(0, 1)}}, 0, 0)
	wantFault(t, with("s", api.Struct, item), api.Data{Buffers: [][]byte{nil}, Children: []api.Data{none}}, api.ErrSmall, 1)
	wantFault(t, wide("s", api.Span, 2, item), api.Data{Buffers: [][]byte{nil}, Children: []api.Data{none}}, api.ErrSmall, 1)
	wantFault(t, with("c", api.Choice, item), api.Data{Buffers: [][]byte{nil, nil}, Children: []api.Data{none}}, api.ErrLength, 0, 0)
	wantFault(t, with("r", api.Runs, item), api.Data{Children: []api.Data{none, none}}, api.ErrLength, 0, 0)
	d := dict("d", api.Uint64, item)
	for _, n := range []int{-1, 0, math.MinInt} {
		values := api.Data{Length: n, Buffers: [][]byte{nil, nil}}
		wantFault(t, d, api.Data{Length: 1, Buffers: [][]byte{nil, make([]byte, 8)}, Dict: []api.Data{values}}, api.ErrIndex, 0)
	}
	wantFault(t, d, api.Data{Buffers: [][]byte{nil, nil}, Dict: []api.Data{none}}, api.ErrLength, 0, 0)
	c := with("c", api.Choice, item)
	wantFault(t, c, api.Data{Length: 1, Buffers: [][]byte{{0}, int32s(0)}, Children: []api.Data{none}}, api.ErrOffsets, 0)
	wantFault(t, maybe(plainField("n", api.Null)), api.Data{Length: 4096, Nulls: 4096}, 0, 0)
	wantFault(t, maybe(plainField("n", api.Null)), api.Data{Length: 3, Nulls: 2}, api.ErrLength, 1)
	wantFault(t, with("s", api.Struct), api.Data{Length: 4096, Buffers: [][]byte{nil}}, 0, 0)
}

// P8.1: an index is a number of its kind.
func TestCheckIndices(t *testing.T) {
	for k := api.Int8; k <= api.Uint64; k++ {
		f := dict("d", k, plainField("w", api.Bool))
		width := modelWidths[k]
		for rows := range 300 {
			values := api.Data{Length: rows, Buffers: [][]byte{nil, make([]byte, 40)}}
			for _, x := range []int{-1, 0, 1, 127, 128, 255, 256, rows - 1, rows, math.MinInt64, math.MaxInt64} {
				b := binary.LittleEndian.AppendUint64(nil, uint64(x))[:width]
				n := modelNumber(b, 0, width, modelSigned(k))
				want := api.ErrIndex
				if n >= 0 && n < int64(rows) {
					want = api.OK
				}
				if y := Check(f, api.Data{Length: 1, Buffers: [][]byte{nil, b}, Dict: []api.Data{values}}); y.Err != want || y.At != 0 {
					t.Fatalf("kind %d, %d of %d rows: %v", k, x, rows, y)
				}
			}
		}
	}
}

// heavy is a Dict array whose rows name texts of so many bytes each, and its field.
func heavy(sizes []int, rows ...byte) (api.Field, api.Data) {
	offsets, all := []int{0}, 0
	for _, n := range sizes {
		all += n
		offsets = append(offsets, all)
	}
	values := api.Data{Length: len(sizes), Buffers: [][]byte{nil, int32s(offsets...), make([]byte, all)}}
	f := dict("d", api.Uint8, plainField("w", api.Bytes))
	return f, api.Data{Length: len(rows), Buffers: [][]byte{nil, rows}, Dict: []api.Data{values}}
}

// repeated is n times a number, and others behind it.
func repeated(n int, x byte, behind ...byte) []byte {
	return append([]byte(strings.Repeat(string([]byte{x}), n)), behind...)
}

// P8.1: a weight of just MaxWeight may be, wherever it comes from; one more may not.
func TestCheckWeight(t *testing.T) {
	// 127 times 32768 + 16, and what is left to MaxWeight: 16 + 30720.
	f, d := heavy([]int{32768, 30720}, repeated(127, 0, 1)...)
	wantFault(t, f, d, 0, 0)
	f, d = heavy([]int{32768, 30721}, repeated(127, 0, 1)...)
	wantFault(t, f, d, api.ErrRows, 1)
	// One row more, though of no bytes.
	f, d = heavy([]int{32768, 30720, 0}, repeated(127, 0, 1, 2)...)
	wantFault(t, f, d, api.ErrRows, 1)
	// Rows ahead of Offset don't weigh.
	d.Offset, d.Length = 1, 128
	wantFault(t, f, d, 0, 0)
	// The weight of a part is told as the part's, and ahead of what is wrong behind it.
	f, d = heavy([]int{32768, 30721}, repeated(127, 0, 1)...)
	g := with("s", api.Struct, plainField("a", api.Int8), f)
	whole := api.Data{Buffers: [][]byte{nil}, Children: []api.Data{numbersData(0, 1), d}}
	wantFault(t, g, whole, api.ErrRows, 1, 1)
	// A list around an array that weighs just MaxWeight weighs more, if it names all of it, and not if it names no row.
	f, d = heavy([]int{32768, 30720}, repeated(127, 0, 1)...)
	g = with("l", api.List, f)
	wantFault(t, g, api.Data{Length: 1, Buffers: [][]byte{nil, int32s(0, 128)}, Children: []api.Data{d}}, api.ErrRows, 1)
	wantFault(t, g, api.Data{Length: 1, Buffers: [][]byte{nil, int32s(1, 128)}, Children: []api.Data{d}}, 0, 0)
	// A row that is null weighs 16, whatever lies under it.
	whole = api.Data{Length: 1, Nulls: 1, Buffers: [][]byte{{0}, int32s(0, 128)}, Children: []api.Data{d}}
	wantFault(t, maybe(g), whole, 0, 0)
	s := maybe(with("s", api.Struct, g))
	wantFault(t, s, api.Data{Length: 1, Nulls: 1, Buffers: [][]byte{{0}}, Children: []api.Data{{Length: 1, Buffers: [][]byte{nil, int32s(1, 128)}, Children: []api.Data{d}}}}, 0, 0)
}

// P8.1, P8.2: what a row weighs, counted from within and counted while it is read, is what its value weighs.
func TestWeightsOfRows(t *testing.T) {
	for seed := range int64(3000) {
		c := newChance(seed)
		f := c.field()
		d := c.array(f, 1+c.Intn(6))
		n := bare(f, d)
		counted := new(check).node(n, d)
		for i := range d.Length {
			l := look{left: api.MaxWeight}
			want := modelWeight(l.value(n, i))
			if counted[i] != want || api.MaxWeight-l.left != want {
				t.Fatalf("seed %d, row %d: counted %d, read %d, want %d", seed, i, counted[i], api.MaxWeight-l.left, want)
			}
		}
	}
}

// bomb is Spans of 64 Choices, level by level, of which each names the one row below it: its weight rises 64-fold a level.
func bomb(levels int) (api.Field, api.Data) {
	f, d := plainField("a", api.Int8), numbersData(1, 1)
	for range levels {
		f = wide("s", api.Span, 64, with("c", api.Choice, f))
		c := api.Data{Length: 64, Buffers: [][]byte{make([]byte, 64), make([]byte, 256)}, Children: []api.Data{d}}
		d = api.Data{Length: 1, Buffers: [][]byte{nil}, Children: []api.Data{c}}
	}
	return f, d
}

// P8.1: what weighs more than can be laid out is told without laying it out.
func TestCheckBomb(t *testing.T) {
	f, d := bomb(2) // 16 + 64 * (16 + 16 + 64 * (16 + 16)) is 133136
	wantFault(t, f, d, 0, 0)
	for levels := 3; levels < 32; levels++ {
		f, d = bomb(levels)
		way := []int{}
		for range levels - 3 {
			way = append(way, 0, 0)
		}
		// The third level from within is 64 times 133152: its Choices are told first.
		wantFault(t, f, d, api.ErrRows, 1, append(way, 0)...)
	}
}

// P8.1, P8.5: Check changes nothing, and what it tells is its own.
func TestCheckMemory(t *testing.T) {
	for seed := range int64(500) {
		c := newChance(seed)
		f := c.field()
		d := c.array(f, 4)
		c.hurt(&d)
		g, e := copied(f), copiedData(d)
		x := told(t, f, d)
		y := Check(f, d)
		for _, p := range [][]int{y.Path[:cap(y.Path)]} {
			for i := range p {
				p[i] = -7
			}
		}
		if !sameField(f, g) || !sameData(d, e) {
			t.Fatalf("seed %d: changed", seed)
		}
		if !sameFault(x, Check(f, d)) || slices.Contains(x.Path, -7) {
			t.Fatalf("seed %d: two faults share memory", seed)
		}
	}
}
