package order

import (
	"math/rand"
	"slices"
	"testing"

	"colonnade/api"
	"colonnade/array"
	"colonnade/kind"
	"colonnade/value"
)

// chance makes schemas, rows that fit them, batches that lie anyhow, and keys, always the same ones.
type chance struct {
	*rand.Rand
	ids int // dictionaries of the type under way
}

func newChance(seed int64) *chance { return &chance{Rand: rand.New(rand.NewSource(seed))} }

// in tells whether one of n cases is met.
func (c *chance) in(n int) bool { return c.Intn(n) == 0 }

// leaf makes a type without children, of a kind.
func (c *chance) leaf(k int) api.Type {
	t := api.Type{Kind: k}
	if k == api.Fixed {
		t.Width = 1 + c.Intn(2)
	}
	return t
}

// anyType makes a type that is neither Dict nor Runs, of at most so many levels below it.
func (c *chance) anyType(depth int, inDict bool) api.Type {
	if depth == 0 || c.in(3) {
		return c.leaf(api.Null + c.Intn(api.Fixed))
	}
	t := api.Type{Kind: api.List + c.Intn(4)}
	n := 1
	switch t.Kind {
	case api.Span:
		t.Width = 1 + c.Intn(2)
	case api.Struct:
		n = c.Intn(3)
	case api.Choice:
		n = 1 + c.Intn(3)
	}
	for i := range n {
		t.Fields = append(t.Fields, c.child(string(rune('i'+i)), depth-1, inDict))
	}
	return t
}

// child makes a field within a type.
func (c *chance) child(name string, depth int, inDict bool) api.Field {
	if !inDict && depth > 0 && c.in(5) {
		f := c.named(name, c.anyType(depth-1, true), c.ids)
		c.ids++
		return f
	}
	f := c.bare(name, c.anyType(depth, inDict))
	if !inDict && c.in(6) {
		f = api.Field{Name: name, Nullable: f.Nullable, Type: api.Type{Kind: api.Runs, Fields: []api.Field{f}}}
	}
	return f
}

// bare makes a field of a type.
func (c *chance) bare(name string, t api.Type) api.Field {
	return api.Field{Name: name, Nullable: t.Kind == api.Null || t.Kind != api.Choice && c.in(2), Type: t}
}

// named makes a Dict of a type, if there may be one, else a bare field.
func (c *chance) named(name string, t api.Type, id int) api.Field {
	if t.Kind == api.Null {
		return c.bare(name, t)
	}
	within := api.Field{Name: "w", Type: t}
	return api.Field{Name: name, Nullable: c.in(2), Type: api.Type{Kind: api.Dict, ID: id, Index: api.Int8 + c.Intn(8), Fields: []api.Field{within}}}
}

// holdsNames tells whether a Dict or Runs stands somewhere in a type.
func holdsNames(t api.Type) bool {
	return t.Kind >= api.Dict || slices.ContainsFunc(t.Fields, func(f api.Field) bool { return holdsNames(f.Type) })
}

// around makes a field whose plain field is of a type.
func (c *chance) around(name string, t api.Type) api.Field {
	f := c.bare(name, t)
	if !holdsNames(t) && c.in(3) {
		f = c.named(name, t, c.Intn(api.MaxDicts))
	}
	for c.in(5) {
		f = api.Field{Name: name, Nullable: f.Nullable, Type: api.Type{Kind: api.Runs, Fields: []api.Field{f}}}
	}
	return f
}

// hurt changes one thing of a field, so that it may be none, or another one.
func (c *chance) hurt(f *api.Field) {
	for len(f.Type.Fields) > 0 && !c.in(3) {
		f.Type.Fields = slices.Clone(f.Type.Fields)
		f = &f.Type.Fields[c.Intn(len(f.Type.Fields))]
	}
	switch c.Intn(5) {
	case 0:
		f.Name += "x"
	case 1:
		f.Nullable = !f.Nullable
	case 2:
		f.Type.Kind = c.Intn(23) - 1
	case 3:
		f.Type.Width++
	case 4:
		f.Type.Fields = append(f.Type.Fields[:len(f.Type.Fields):len(f.Type.Fields)], api.Field{Name: "more", Type: api.Type{Kind: api.Int8}})
	}
}

// Numbers about which something changes, the bits of such floating-point numbers, and texts.
var (
	edges = []int64{0, 1, 2, 3, 7, -1, -2, -7, 11, 12, 16, 127, 126, 128, -127, -128, -129, 255, 254, 256, 181, 182, -181, -182, 1<<15 - 1, 1 << 15, -1 << 15, -1<<15 - 1, 1<<16 - 1, 1 << 16, 46340, 46341, 65535,
		1<<31 - 1, 1 << 31, -1 << 31, -1<<31 - 1, 1<<32 - 1, 1 << 32, 3037000499, 3037000500, 4294967295, 1<<62 - 1, 1 << 62, -1 << 62, -1<<62 - 1, 1<<63 - 1, 1<<63 - 2, -1 << 63, -1<<63 + 1}
	odd = []uint64{0, signBit, 1, signBit | 1, 2, 3, 1<<52 - 1, 1 << 52, 1<<52 + 1, signBit | 1<<52, infinity, signBit | infinity, infinity - 1, signBit | (infinity - 1), infinity - 2, nan, signBit | nan, infinity + 1, signBit - 1, signBit | (signBit - 1),
		0x3ff << 52, 0xbff << 52, 0x3ff<<52 + 1, 0x3ff<<52 - 1, 0x400 << 52, 0x3fe << 52, 0x3fe<<52 + 1, 0x3ca << 52, 0x3ca<<52 + 1, 0x3cb << 52, 0x7ca << 52, 0x7c9 << 52, 0x7c9<<52 - 1, 0x3fb999999999999a, 0x3fc999999999999a, 0x3fd5555555555555, 0x1ff << 52, 0x5fe << 52, 0x5ff << 52, 0x001 << 52, 0x035 << 52}
	pieces = []string{"", "a", "ab", "b", "aab", "abab", "é", "e", "\u0301", "\x00", "abc", "ba"}
)

// number makes a number of a kind.
func (c *chance) number(k int) int64 {
	n := edges[c.Intn(len(edges))]
	if k == api.Float64 {
		n = int64(odd[c.Intn(len(odd))])
		if c.in(3) {
			n = int64(c.Uint64())
		}
		return n
	}
	if c.in(3) {
		n = int64(c.Uint64()) >> c.Intn(64)
	}
	if c.in(3) {
		n = int64(c.Intn(5)) - 2
	}
	if value.Fits(api.Field{Name: "n", Type: api.Type{Kind: k}}, api.Value{Num: n}) != api.OK {
		return c.number(k)
	}
	return n
}

// letters makes a text.
func (c *chance) letters() string {
	return pieces[c.Intn(len(pieces))] + pieces[c.Intn(len(pieces))]
}

// value makes a value that fits a field.
func (c *chance) value(f api.Field) (v api.Value) {
	t := f.Type
	if t.Kind == api.Null || f.Nullable && c.in(5) {
		return null
	}
	n := 0
	switch t.Kind {
	case api.Text, api.Bytes:
		v.Text = c.letters()
		if t.Kind == api.Bytes && c.in(3) {
			v.Text += "\xff"
		}
	case api.Fixed:
		for range t.Width {
			v.Text += string("ab\xff"[c.Intn(3):][:1])
		}
	case api.List:
		n = c.Intn(3)
	case api.Span:
		n = t.Width
	case api.Struct:
		for _, g := range t.Fields {
			v.List = append(v.List, c.value(g))
		}
	case api.Choice:
		v.Num = int64(c.Intn(len(t.Fields)))
		v.List = []api.Value{c.value(t.Fields[v.Num])}
	case api.Dict, api.Runs:
		return c.value(t.Fields[0])
	default:
		v.Num = c.number(t.Kind)
	}
	for range n {
		v.List = append(v.List, c.value(t.Fields[0]))
	}
	return v
}

// column makes so many of them, some again.
func (c *chance) column(f api.Field, n int) []api.Value {
	var l []api.Value
	for range n {
		v := c.value(f)
		if len(l) > 0 && c.in(3) {
			v = l[c.Intn(len(l))]
		}
		l = append(l, v)
	}
	return l
}

// anyhow makes an array that denotes values: with other rows around them, and noise where nobody looks.
func (c *chance) anyhow(t testing.TB, f api.Field, l []api.Value) api.Data {
	t.Helper()
	ahead, behind := c.column(f, c.Intn(4)), c.column(f, c.Intn(4))
	d := formOf(t, f, slices.Concat(ahead, l, behind))
	d.Offset, d.Length = len(ahead), len(l)
	if k := f.Type.Kind; k != api.Choice && k != api.Runs {
		d.Nulls = 0
		for _, v := range l {
			if v.Null {
				d.Nulls++
			}
		}
	}
	c.noiseAtNulls(f, slices.Concat(ahead, l, behind), d)
	for k, g := range kind.Parts(f.Type) {
		d.Children[k] = c.again(t, g, d.Children[k])
	}
	for k := range d.Dict {
		d.Dict[k] = c.again(t, f.Type.Fields[0], d.Dict[k])
	}
	return d
}

// again makes an array that denotes the same as another one, and lies otherwise.
func (c *chance) again(t testing.TB, f api.Field, d api.Data) api.Data {
	t.Helper()
	a, x := array.Open(f, d)
	if x.Err != api.OK {
		t.Fatalf("Open: %v", x)
	}
	return c.anyhow(t, f, a.Values())
}

// noiseAtNulls writes into the numbers and indices of null rows.
func (c *chance) noiseAtNulls(f api.Field, all []api.Value, d api.Data) {
	w := kind.Width(f.Type)
	for i, v := range all {
		for j := 0; v.Null && j < w; j++ {
			d.Buffers[1][i*w+j] = byte(c.Intn(256))
		}
	}
}

// hurtArray changes one thing of an array, so that it may be none of its field.
func (c *chance) hurtArray(x *api.Data) {
	for len(x.Children) > 0 && !c.in(3) {
		x = &x.Children[c.Intn(len(x.Children))]
	}
	switch n := len(x.Buffers); c.Intn(4) {
	case 0:
		x.Length += c.Intn(9) - 4
	case 1:
		x.Nulls++
	case 2:
		x.Children, x.Dict = x.Dict, x.Children
	default:
		if n > 0 {
			b := x.Buffers[c.Intn(n)]
			x.Buffers[c.Intn(n)] = b[:c.Intn(len(b)+1)]
		}
	}
}

// field makes a field that may be, of any type.
func (c *chance) field() api.Field {
	c.ids = 0
	for {
		t := c.anyType(3, false)
		if c.in(2) {
			t = c.leaf(api.Bool + c.Intn(api.Fixed-1))
		}
		if f := c.around("a", t); kind.CheckField(f).Err == api.OK {
			return f
		}
	}
}

// schema makes a schema that may be, of at most so many fields.
func (c *chance) schema(most int) api.Schema {
	for {
		var s api.Schema
		for i := range c.Intn(most + 1) {
			f := c.field()
			f.Name = string(rune('a' + i))
			s.Fields = append(s.Fields, f)
		}
		if kind.Check(s).Err == api.OK {
			return s
		}
	}
}

// rows makes so many rows of a schema.
func (c *chance) rows(s api.Schema, n int) [][]api.Value {
	l := make([][]api.Value, n)
	for _, f := range s.Fields {
		for i, v := range c.column(f, n) {
			l[i] = append(l[i], v)
		}
	}
	return l
}

// batch makes a batch of rows, whose columns lie anyhow.
func (c *chance) batch(t testing.TB, s api.Schema, rows [][]api.Value) api.Batch {
	t.Helper()
	b := api.Batch{Rows: len(rows)}
	for k, f := range s.Fields {
		b.Columns = append(b.Columns, c.anyhow(t, f, columnOf(rows, k)))
	}
	return b
}

// keys makes keys that may be.
func (c *chance) keys(s api.Schema) []api.Key {
	var l []api.Key
	for _, k := range c.Perm(len(s.Fields))[:c.Intn(len(s.Fields)+1)] {
		l = append(l, api.Key{Column: k, Down: c.in(2), Last: c.in(2)})
	}
	return l
}
