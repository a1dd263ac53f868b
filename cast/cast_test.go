package cast

import (
	"slices"
	"strings"
	"testing"

	"colonnade/api"
	"colonnade/array"
	"colonnade/build"
	"colonnade/value"
)

// repeated is a Dict with an index of one byte a row, and a dictionary.
func repeated(values api.Data, indices ...byte) api.Data {
	return api.Data{Length: len(indices), Buffers: [][]byte{nil, indices}, Dict: []api.Data{values}}
}

// P16.1: which fault is told first: the fields', the way's, the array's, the values', the building's.
func TestCastFaultsInOrder(t *testing.T) {
	bytes, small := field(t, "bytes"), api.Data{Length: 1, Buffers: [][]byte{nil, {0}, nil}}
	long := text(strings.Repeat("x", 40000))
	lost := repeated(formOf(t, bytes, []api.Value{long, text("\xff")}), 0, 0, 1, 1)
	for _, x := range []struct {
		from  string
		d     api.Data
		to    string
		loose bool
		e     api.Errno
		at    int
	}{
		{"bytes", small, "int8", false, api.ErrCast, 0},
		{"bytes", data(t, bytes, `x"ff"`), "int8?", true, api.ErrCast, 0},
		{"bytes", small, "text?", true, api.ErrSmall, 0},
		{"bytes", api.Data{}, "text", false, api.ErrShape, 0},
		{"bytes", api.Data{Length: 2, Offset: -1, Buffers: [][]byte{nil, nil, nil}}, "text", false, api.ErrLength, 0},
		{"bytes", api.Data{Length: 4097, Buffers: [][]byte{nil, nil, nil}}, "text", false, api.ErrRows, 0},
		{"text", api.Data{Length: 2, Buffers: [][]byte{nil, {0, 0, 0, 0, 1, 0, 0, 0, 2, 0, 0, 0}, {'a', 0xff}}}, "text?", true, api.ErrUtf, 0},
		{"list(i int8)", api.Data{Length: 1, Buffers: [][]byte{nil, {0, 0, 0, 0, 0, 0, 0, 0}}, Children: []api.Data{small}}, "list(i text)", false, api.ErrShape, 0},
		{"int8", api.Data{Length: 1, Nulls: 1, Buffers: [][]byte{{0}, {1}}}, "int8?", true, api.ErrLength, 0},
		{"dict(0, int8, w bytes)", repeated(data(t, bytes, `x"ff"`), 0, 1), "text?", true, api.ErrIndex, 0},
		{"dict(0, int8, w bytes)", lost, "text", false, api.ErrLost, 2},
		{"dict(0, int8, w bytes)", lost, "text", true, api.ErrLost, 2},
		{"dict(0, int8, w bytes)", lost, "text?", false, api.ErrLost, 2},
		{"dict(0, int8, w bytes)", lost, "text?", true, api.ErrBytes, 1},
		{"dict(0, int8, w bytes)", lost, "bytes", false, api.ErrBytes, 1},
	} {
		holdsCast(t, x.from+" to "+x.to, castOf(field(t, x.from), x.d, field(t, x.to), x.loose), answer{e: x.e, at: x.at})
	}
}

// P16.1: the limits of building, with the number of the value that meets one.
func TestCastLimits(t *testing.T) {
	var l []api.Value
	for i := range 130 {
		l = append(l, num(int64(i)))
	}
	from, to := field(t, "int32"), field(t, "dict(0, int8, w uint8)?")
	holdsCast(t, "128 values", castOf(from, formOf(t, from, l[:128]), to, false), answer{d: formOf(t, to, l[:128])})
	holdsCast(t, "129 values", castOf(from, formOf(t, from, l), to, false), answer{e: api.ErrIndices, at: 128})
	l = append(l, num(256))
	holdsCast(t, "and one that can't be", castOf(from, formOf(t, from, l), to, false), answer{e: api.ErrLost, at: 130})
	holdsCast(t, "and one that is null", castOf(from, formOf(t, from, l), to, true), answer{e: api.ErrIndices, at: 128})

	// A null Span takes as much room as one that isn't.
	from, to = field(t, "null?"), field(t, "span(64, i span(64, j int8))?")
	holdsCast(t, "a null", castOf(from, data(t, from, "null"), to, false), answer{d: data(t, to, "null")})
	holdsCast(t, "two nulls", castOf(from, data(t, from, "null", "null"), to, false), answer{e: api.ErrRows, at: 1})

	// Numbers as texts have more bytes: 4096 times 16 may be, not one more.
	from, to = field(t, "int64"), field(t, "text")
	l = slices.Repeat([]api.Value{num(1234567890123456)}, 4096)
	got := castOf(from, formOf(t, from, l), to, false)
	if got.e != api.OK || got.d.Length != 4096 || len(got.d.Buffers[2]) != 65536 {
		t.Errorf("65536 bytes: %d at %d", got.e, got.at)
	}
	l[7].Num = -l[7].Num
	holdsCast(t, "65537 bytes", castOf(from, formOf(t, from, l), to, true), answer{e: api.ErrBytes, at: 4095})

	// A run's items lie there once, and once a row where there are no runs.
	from, to = field(t, "runs(v list(i int8))"), field(t, "list(i int8)")
	long := list(make([]api.Value, 3000)...)
	holdsCast(t, "6000 items", castOf(from, formOf(t, from, []api.Value{long, long}), to, false), answer{e: api.ErrRows, at: 1})
}

// P16.1: a value that is too heavy by itself can't be; an array that is can't be built.
func TestCastWeight(t *testing.T) {
	items := field(t, "list(j int8)")
	within := repeated(formOf(t, items, []api.Value{list(make([]api.Value, 4096)...)}), make([]byte, 63)...)
	d := api.Data{Length: 2, Buffers: [][]byte{nil, {0, 0, 0, 0, 1, 0, 0, 0, 63, 0, 0, 0}}, Children: []api.Data{within}}
	from, to := field(t, "list(i dict(0, int8, w list(j int8)))"), field(t, "list(i dict(0, int8, w list(j text)))?")
	holdsCast(t, "too heavy a value", castOf(from, d, to, false), answer{e: api.ErrLost, at: 1})
	a, x := array.Open(from, d)
	if x.Err != api.OK {
		t.Fatal(x)
	}
	first, e := Value(from, a.Values()[0], to)
	if e != api.OK {
		t.Fatal(e)
	}
	holdsCast(t, "a null in its place", castOf(from, d, to, true), answer{d: formOf(t, to, []api.Value{first, null})})
	if _, e := Value(from, a.Values()[1], to); e != api.ErrLost {
		t.Errorf("the value by itself: %d", e)
	}

	copy(d.Buffers[1][4:], []byte{30})
	holdsCast(t, "too heavy an array", castOf(from, d, to, true), answer{e: api.ErrRows, at: 1})
	got := castOf(from, d, field(t, "list(i dict(5, uint8, w list(j int16?))?)"), false)
	if got.e != api.OK || got.d.Length != 2 || got.d.Children[0].Dict[0].Length != 1 {
		t.Errorf("as heavy as it was: %d at %d", got.e, got.at)
	}
}

// P16.1: the number of a value counts from 0 on, the Offset beside.
func TestCastPlaces(t *testing.T) {
	from, to := field(t, "int16?"), field(t, "int8?")
	d := data(t, from, "1000", "1", "null", "300", "2", "400")
	d.Offset, d.Length, d.Nulls = 1, 4, 1
	holdsCast(t, "by an Offset", castOf(from, d, to, false), answer{e: api.ErrLost, at: 2})
	holdsCast(t, "loose", castOf(from, d, to, true), answer{d: data(t, to, "1", "null", "null", "2")})
	to.Nullable = false
	holdsCast(t, "the null is the first one", castOf(from, d, to, true), answer{e: api.ErrLost, at: 1})
	d.Offset, d.Length, d.Nulls = 5, 0, 0
	holdsCast(t, "no rows", castOf(from, d, to, false), answer{d: data(t, to)})
}

// P16.1: loose, the whole value becomes null, however deep what can't be lies; through Dict and Runs too.
func TestCastLoose(t *testing.T) {
	for _, x := range []struct {
		from, to string
		texts    []string
		want     []string
	}{
		{"list(i list(j int64)?)", "list(i list(j int8)?)?", []string{"[[1],[300],null]", "[[1]]"}, []string{"null", "[[1]]"}},
		{"struct(a text, b text)", "struct(a text, b int8)?", []string{`{a:"x",b:"1"}`, `{a:"y",b:""}`}, []string{`{a:"x",b:1}`, "null"}},
		{"choice(a int64)", "dict(0, int8, w choice(a int8))?", []string{"a(1)", "a(300)", "a(1)"}, []string{"a(1)", "null", "a(1)"}},
		{"float64", "runs(v int8?)?", []string{"1p0", "3p-1", "inf", "nan8000000000000", "1p0"}, []string{"1", "1", "null", "null", "1"}},
		{"runs(v null?)?", "text?", []string{"null", "null"}, []string{"null", "null"}},
		{"list(i int8?)", "span(2, i int8)?", []string{"[1,2]", "[1]", "[1,null]", "[]"}, []string{"[1,2]", "null", "null", "null"}},
	} {
		from, to := field(t, x.from), field(t, x.to)
		holdsCast(t, x.from+" to "+x.to, castOf(from, data(t, from, x.texts...), to, true), answer{d: data(t, to, x.want...)})
	}
}

// P16.1, P16.3, P16.4: any arrays, however they lie, and loose or not, are as the chapter's words tell them of what they denote.
func TestAnyArrays(t *testing.T) {
	c := newChance(4)
	told := map[api.Errno]int{}
	for range 5000 {
		from, to := c.pair()
		if modelPair(from, from) != api.OK {
			holdsCast(t, "Cast", castOf(from, api.Data{}, to, false), answer{e: api.ErrType})
			continue
		}
		l := c.values(from)
		d := c.anyhow(t, from, l)
		for _, loose := range []bool{false, true} {
			want, got := modelCast(from, l, to, loose), castOf(from, d, to, loose)
			holdsCast(t, "Cast", got, want)
			holdsCast(t, "Cast of the build form", castOf(from, formOf(t, from, l), to, loose), want)
			if got.e == api.OK && !build.IsForm(to, got.d) {
				t.Fatal("an answer is not in build form")
			}
			told[got.e]++
		}
	}
	for _, e := range []api.Errno{api.OK, api.ErrType, api.ErrCast, api.ErrLost} {
		if told[e] < 200 {
			t.Errorf("%d only %d times", e, told[e])
		}
	}
}

// P16.1: an array that is none of its field is told by array's error, and by no number.
func TestAnyHurtArrays(t *testing.T) {
	c := newChance(5)
	hurt := 0
	for range 9000 {
		from, to := c.pair()
		if modelPair(from, to) != api.OK {
			continue
		}
		d := c.anyhow(t, from, c.values(from))
		x := &d
		for len(x.Children) > 0 && !c.in(3) {
			x = &x.Children[c.Intn(len(x.Children))]
		}
		switch n := len(x.Buffers); c.Intn(4) {
		case 0:
			x.Length += c.Intn(9) - 4
		case 1:
			x.Nulls++
		case 2:
			x.Children, x.Dict = x.Dict, x.Children
		default:
			if n > 0 {
				b := x.Buffers[c.Intn(n)]
				x.Buffers[c.Intn(n)] = b[:c.Intn(len(b)+1)]
			}
		}
		if e := array.Check(from, d).Err; e != api.OK {
			hurt++
			holdsCast(t, "Cast", castOf(from, d, to, c.in(2)), answer{e: e})
		}
	}
	if hurt < 1000 {
		t.Errorf("only %d", hurt)
	}
}

// P16.3: Cast is Value of each row; loose, null where one can't be.
func TestRowByRow(t *testing.T) {
	c := newChance(6)
	for range 5000 {
		from, to := c.pair()
		if !Can(from, to) {
			continue
		}
		l := c.values(from)
		d := c.anyhow(t, from, l)
		var all []api.Value
		first := -1
		for i, v := range l {
			w, e := Value(from, v, to)
			if e != api.OK && first < 0 {
				first = i
			}
			if e != api.OK {
				w = null
			}
			all = append(all, w)
		}
		got := castOf(from, d, to, false)
		if first >= 0 {
			holdsCast(t, "Cast", got, answer{e: api.ErrLost, at: first})
			got = castOf(from, d, to, true)
		}
		if first >= 0 && value.Fits(to, null) != api.OK {
			holdsCast(t, "loose", got, answer{e: api.ErrLost, at: first})
			continue
		}
		a, x := array.Open(to, got.d)
		if x.Err != api.OK || !slices.EqualFunc(a.Values(), all, value.Same) {
			t.Fatalf("Cast: %v, not %v", got, all)
		}
	}
}

// Kinds from which values go to others, and back again.
var (
	wholes   = []int{api.Bool, api.Int8, api.Int16, api.Int32, api.Int64, api.Uint8, api.Uint16, api.Uint32, api.Uint64}
	backWays = [][2][]int{{wholes, wholes}, {wholes, {api.Text}}, {{api.Float64}, {api.Text}}, {{api.Text}, {api.Bytes}}}
)

// there makes two shapes between which values go there and back, of at most so many levels.
func (c *chance) there(depth int) (from, to shape) {
	if depth == 0 || c.in(3) {
		w := backWays[c.Intn(len(backWays))]
		return shape{kinds: w[0]}, shape{kinds: w[1]}
	}
	from.kinds, to.kinds = nests[0], nests[0]
	n := 1
	if c.in(2) {
		from.kinds, to.kinds = nests[1], nests[1]
		n = c.Intn(4)
	}
	for range n {
		a, b := c.there(depth - 1)
		from.parts, to.parts = append(from.parts, a), append(to.parts, b)
	}
	return from, to
}

// P16.2: what becomes another value becomes itself again by the way back.
func TestThereAndBack(t *testing.T) {
	c := newChance(7)
	became := 0
	for range 15000 {
		a, b := c.there(2)
		from, to := c.of(a), c.of(b)
		v := c.value(from)
		w, e := Value(from, v, to)
		if e == api.ErrLost {
			continue
		}
		became++
		back, err := Value(to, w, from)
		if e != api.OK || err != api.OK || !value.Same(back, v) {
			t.Fatalf("%v of %v, by %v of %v: %v, %d, %d", v, from, w, to, back, e, err)
		}
		d := castOf(from, c.anyhow(t, from, []api.Value{v, v}), to, false)
		holdsCast(t, "back", castOf(to, d.d, from, false), answer{d: formOf(t, from, []api.Value{v, v})})
	}
	if became < 5000 {
		t.Errorf("only %d became", became)
	}
}

// P16.4: a field's own values, cast to that field, are themselves; Cast of an array to its own field is its build form.
func TestToItself(t *testing.T) {
	c := newChance(8)
	for range 4000 {
		f := c.of(c.shape(3))
		l := c.values(f)
		for _, v := range l {
			w, e := Value(f, v, f)
			holdsValue(t, "Value", w, e, v, api.OK)
		}
		d := c.anyhow(t, f, l)
		holdsCast(t, "Cast", castOf(f, d, f, c.in(2)), answer{d: formOf(t, f, l)})
	}
}
