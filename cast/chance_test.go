package cast

import (
	"math/rand"
	"slices"
	"testing"

	"colonnade/api"
	"colonnade/array"
	"colonnade/kind"
	"colonnade/value"
)

// chance makes fields, values that fit them, and arrays that lie anyhow, always the same ones.
type chance struct {
	*rand.Rand
	ids int // dictionaries of the field under way
}

func newChance(seed int64) *chance { return &chance{Rand: rand.New(rand.NewSource(seed))} }

// in tells whether one of n cases is met.
func (c *chance) in(n int) bool { return c.Intn(n) == 0 }

// shape is what fields have in common between which there is a way: kinds of which one is taken, and the shapes of the children.
type shape struct {
	kinds []int
	parts []shape
}

// Kinds among which there are ways.
var (
	words = []int{api.Bool, api.Int8, api.Int16, api.Int32, api.Int64, api.Uint8, api.Uint16, api.Uint32, api.Uint64, api.Float64, api.Float64, api.Text, api.Text, api.Text}
	texts = []int{api.Text, api.Bytes, api.Fixed}
	nests = [][]int{{api.List, api.Span}, {api.Struct}, {api.Choice}}
)

// shape makes one of at most so many levels.
func (c *chance) shape(depth int) shape {
	if depth == 0 || c.in(2) {
		return shape{kinds: [][]int{words, words, texts, {api.Null}}[c.Intn(4-c.Intn(2))]}
	}
	k := c.Intn(len(nests))
	n := 1
	switch k {
	case 1:
		n = c.Intn(4)
	case 2:
		n = 1 + c.Intn(3)
	}
	s := shape{kinds: nests[k]}
	for range n {
		s.parts = append(s.parts, c.shape(depth-1))
	}
	return s
}

// of makes a field of a shape.
func (c *chance) of(s shape) api.Field {
	c.ids = 0
	return c.within("f", s, false)
}

// within makes a field of a shape that stands in another one.
func (c *chance) within(name string, s shape, inDict bool) api.Field {
	k := s.kinds[c.Intn(len(s.kinds))]
	named := !inDict && k != api.Null && c.ids < api.MaxDicts && c.in(4)
	f := api.Field{Name: name, Type: api.Type{Kind: k}}
	if k == api.Fixed || k == api.Span {
		f.Type.Width = 1 + c.Intn(3)
	}
	for i, p := range s.parts {
		f.Type.Fields = append(f.Type.Fields, c.within(string(rune('a'+i)), p, inDict || named))
	}
	if named {
		f = api.Field{Name: name, Type: api.Type{Kind: api.Dict, ID: c.ids, Index: api.Int8 + c.Intn(8), Fields: []api.Field{f}}}
		c.ids++
	}
	f.Nullable = k == api.Null || f.Type.Kind != api.Choice && c.in(2)
	for !inDict && c.in(6) && kind.Depth(f.Type) < 10 {
		f = api.Field{Name: name, Nullable: f.Nullable, Type: api.Type{Kind: api.Runs, Fields: []api.Field{f}}}
	}
	return f
}

// pair makes two fields, mostly with a way between them.
func (c *chance) pair() (from, to api.Field) {
	s := c.shape(3)
	from, to = c.of(s), c.of(s)
	switch c.Intn(12) {
	case 0:
		to = c.of(c.shape(3))
	case 1:
		from = c.of(shape{kinds: []int{api.Null}})
	case 2:
		c.hurt(&to)
	case 3:
		c.hurt(&from)
	}
	return from, to
}

// hurt changes one thing of a field, so that it may be none, or another one.
func (c *chance) hurt(f *api.Field) {
	for len(f.Type.Fields) > 0 && !c.in(3) {
		f.Type.Fields = slices.Clone(f.Type.Fields)
		f = &f.Type.Fields[c.Intn(len(f.Type.Fields))]
	}
	switch c.Intn(5) {
	case 0:
		f.Name += "x"
	case 1:
		f.Nullable = !f.Nullable
	case 2:
		f.Type.Kind = c.Intn(23) - 1
	case 3:
		f.Type.Width++
	case 4:
		f.Type.Fields = append(f.Type.Fields[:len(f.Type.Fields):len(f.Type.Fields)], api.Field{Name: "more", Type: api.Type{Kind: api.Int8}})
	}
}

// Numbers about which something changes, and the bits of such floating-point numbers.
var (
	edges = []int64{0, 1, 2, -1, -2, 127, 128, -128, -129, 255, 256, 1<<15 - 1, 1 << 15, -1 << 15, -1<<15 - 1, 1<<16 - 1, 1 << 16, 1<<31 - 1, 1 << 31, -1 << 31, -1<<31 - 1, 1<<32 - 1, 1 << 32,
		1 << 53, 1<<53 + 1, 1<<53 + 2, 1<<53 + 3, -1<<53 - 1, 1<<54 + 2, 1<<54 + 6, 1<<63 - 1, 1<<63 - 512, 1<<63 - 513, -1 << 63, -1<<63 + 1, -1<<63 + 1024, -1<<63 + 1025, -1<<63 + 3072, -1024, -1025}
	floats = []float64{0.5, -0.5, 0.999, -0.999, 1.9, -1, -1.5, 2, 127.9, 128, -128.9, -129, 255.5, 256, 65535.9, 1<<31 - 0.5, 1<<32 - 0.5, 1 << 32, 1 << 53, 1 << 63, 1<<63 - 1024, -1 << 63, -1<<63 - 2048, 1 << 64, 1<<64 - 2048, 1e300, 5e-324, 0.1}
	odd    = []uint64{0, 1 << 63, 0x7ff << 52, 0xfff << 52, 0x7ff8 << 48, 0xfff8 << 48, 0x7ff0000000000001, 1<<63 - 1, 1<<64 - 1, 1, 1<<52 - 1}
	pieces = []string{"", "a", "null", " 1", "1 ", "01", "-0", "+1", "1.5", "2p0", "1p1024", "inf", "-nan8000000000000", "nan0", "true", "TRUE", "é", "\U0001f600", "\x00", "128", "-129", "18446744073709551615", "18446744073709551616", "3p-1", "0p0", "1p-1074", "1p-1075"}
)

// number makes a number of a kind.
func (c *chance) number(k int) int64 {
	n := edges[c.Intn(len(edges))]
	if k == api.Float64 {
		switch c.Intn(4) {
		case 0:
			n = int64(odd[c.Intn(len(odd))])
		case 1:
			n, _ = modelNumber(api.Int64, n, k)
		case 2:
			n = int64(c.Uint64())
		default:
			n = bitsOf(floats[c.Intn(len(floats))])
		}
	}
	if c.in(3) && k != api.Float64 {
		n = int64(c.Uint64()) >> c.Intn(64)
	}
	if value.Fits(api.Field{Name: "n", Type: api.Type{Kind: k}}, api.Value{Num: n}) != api.OK {
		return c.number(k)
	}
	return n
}

// letters makes a Text: often a number's.
func (c *chance) letters() string {
	if c.in(3) {
		return pieces[c.Intn(len(pieces))]
	}
	k := words[c.Intn(len(words)-3)]
	return modelText(k, c.number(k))
}

// noise makes so many bytes, often letters.
func (c *chance) noise(n int) string {
	b := make([]byte, n)
	for i := range b {
		b[i] = []byte{'a', '1', 0, 0xc3, 0xa9, 0xff}[c.Intn(6)]
		if c.in(2) {
			b[i] = byte('0' + c.Intn(10))
		}
	}
	return string(b)
}

// value makes a value that fits a field.
func (c *chance) value(f api.Field) (v api.Value) {
	t := f.Type
	if t.Kind == api.Null || f.Nullable && c.in(5) {
		return null
	}
	n := 0
	switch t.Kind {
	case api.Text:
		v.Text = c.letters()
	case api.Bytes:
		v.Text = c.noise(c.Intn(4))
	case api.Fixed:
		v.Text = c.noise(t.Width)
	case api.List:
		n = c.Intn(4)
	case api.Span:
		n = t.Width
	case api.Struct:
		for _, g := range t.Fields {
			v.List = append(v.List, c.value(g))
		}
	case api.Choice:
		v.Num = int64(c.Intn(len(t.Fields)))
		v.List = []api.Value{c.value(t.Fields[v.Num])}
	case api.Dict, api.Runs:
		return c.value(t.Fields[0])
	default:
		v.Num = c.number(t.Kind)
	}
	for range n {
		v.List = append(v.List, c.value(t.Fields[0]))
	}
	return v
}

// values makes a few of them, some again.
func (c *chance) values(f api.Field) []api.Value {
	var l []api.Value
	for range c.Intn(6) {
		l = append(l, c.value(f))
		if c.in(3) {
			l = append(l, l[c.Intn(len(l))])
		}
	}
	return l
}

// anyhow makes an array that denotes values: with other rows around them, and noise where nobody looks.
func (c *chance) anyhow(t testing.TB, f api.Field, l []api.Value) api.Data {
	t.Helper()
	ahead, behind := c.values(f), c.values(f)
	d := formOf(t, f, slices.Concat(ahead, l, behind))
	d.Offset, d.Length = len(ahead), len(l)
	if k := f.Type.Kind; k != api.Choice && k != api.Runs {
		d.Nulls = 0
		for _, v := range l {
			if v.Null {
				d.Nulls++
			}
		}
	}
	c.noiseAtNulls(f, slices.Concat(ahead, l, behind), d)
	for k, g := range kind.Parts(f.Type) {
		d.Children[k] = c.again(t, g, d.Children[k])
	}
	for k := range d.Dict {
		d.Dict[k] = c.again(t, f.Type.Fields[0], d.Dict[k])
	}
	return d
}

// again makes an array that denotes the same as another one, and lies otherwise.
func (c *chance) again(t testing.TB, f api.Field, d api.Data) api.Data {
	t.Helper()
	a, x := array.Open(f, d)
	if x.Err != api.OK {
		t.Fatalf("Open: %v", x)
	}
	return c.anyhow(t, f, a.Values())
}

// noiseAtNulls writes into the numbers and indices of null rows.
func (c *chance) noiseAtNulls(f api.Field, all []api.Value, d api.Data) {
	w := kind.Width(f.Type)
	for i, v := range all {
		for j := 0; v.Null && j < w; j++ {
			d.Buffers[1][i*w+j] = byte(c.Intn(256))
		}
	}
}
