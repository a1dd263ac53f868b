package match

import (
	"math/rand"
	"slices"
	"testing"

	"colonnade/api"
	"colonnade/array"
	"colonnade/kind"
	"colonnade/value"
)

// chance makes schemas, rows that fit them, batches that lie anyhow, and what is asked of them, always the same.
type chance struct {
	*rand.Rand
	ids int // dictionaries of the schema under way
}

func newChance(seed int64) *chance { return &chance{Rand: rand.New(rand.NewSource(seed))} }

// in tells whether one of n cases is met.
func (c *chance) in(n int) bool { return c.Intn(n) == 0 }

// leaf makes a type without children, of a kind.
func (c *chance) leaf(k int) api.Type {
	t := api.Type{Kind: k}
	if k == api.Fixed {
		t.Width = 1 + c.Intn(2)
	}
	return t
}

// anyType makes a type that is neither Dict nor Runs, of at most so many levels below it.
func (c *chance) anyType(depth int, inDict bool) api.Type {
	if depth == 0 || c.in(3) {
		return c.leaf(api.Null + c.Intn(api.Fixed))
	}
	t := api.Type{Kind: api.List + c.Intn(4)}
	n := 1
	switch t.Kind {
	case api.Span:
		t.Width = 1 + c.Intn(2)
	case api.Struct:
		n = c.Intn(3)
	case api.Choice:
		n = 1 + c.Intn(3)
	}
	for i := range n {
		t.Fields = append(t.Fields, c.field(string(rune('i'+i)), depth-1, inDict))
	}
	return t
}

// field makes a field, of at most so many levels below it.
func (c *chance) field(name string, depth int, inDict bool) api.Field {
	t := c.anyType(depth, inDict || depth > 0 && c.in(3))
	f := api.Field{Name: name, Nullable: t.Kind == api.Null || t.Kind != api.Choice && c.in(2), Type: t}
	if !inDict && c.in(3) && t.Kind != api.Null && !holdsNames(t) {
		within := api.Field{Name: "w", Type: t}
		f = api.Field{Name: name, Nullable: c.in(2), Type: api.Type{Kind: api.Dict, ID: c.ids, Index: api.Int8 + c.Intn(8), Fields: []api.Field{within}}}
		c.ids++
	}
	for !inDict && c.in(6) {
		f = api.Field{Name: name, Nullable: f.Nullable, Type: api.Type{Kind: api.Runs, Fields: []api.Field{f}}}
	}
	return f
}

// holdsNames tells whether a Dict or Runs stands somewhere in a type.
func holdsNames(t api.Type) bool {
	return t.Kind >= api.Dict || slices.ContainsFunc(t.Fields, func(f api.Field) bool { return holdsNames(f.Type) })
}

// schema makes a schema that may be, of at most so many fields; half of them are of types without children.
func (c *chance) schema(most int) api.Schema {
	for {
		c.ids = 0
		s := api.Schema{Notes: []api.Note{{Key: "k", Text: "of what was handed in"}}}
		for i := range c.Intn(most + 1) {
			s.Fields = append(s.Fields, c.field(string(rune('a'+i)), 3*c.Intn(2), false))
		}
		if kind.Check(s).Err == api.OK {
			return s
		}
	}
}

// Numbers about which something changes, the bits of such floating-point numbers, and texts.
var (
	edges  = []int64{0, 1, 2, -1, -2, 127, -128, 255, 1<<31 - 1, -1 << 31, 1<<63 - 1, 1<<63 - 2, -1 << 63}
	odd    = []uint64{0, 1 << 63, 1, 0x7ff << 52, 0xfff << 52, 0x7ff8 << 48, 0x7ff8<<48 + 1, 0x3ff << 52, 0xbff << 52, 0x3fb999999999999a}
	pieces = []string{"", "a", "ab", "b", "é", "\x00"}
)

// number makes a number of a kind.
func (c *chance) number(k int) int64 {
	if k == api.Float64 {
		return int64(odd[c.Intn(len(odd))])
	}
	n := edges[c.Intn(len(edges))]
	if value.Fits(api.Field{Name: "n", Type: api.Type{Kind: k}}, api.Value{Num: n}) != api.OK {
		return c.number(k)
	}
	return n
}

// value makes a value that fits a field.
func (c *chance) value(f api.Field) (v api.Value) {
	t := f.Type
	if t.Kind == api.Null || f.Nullable && c.in(5) {
		return null
	}
	n := 0
	switch t.Kind {
	case api.Text, api.Bytes:
		v.Text = pieces[c.Intn(len(pieces))] + pieces[c.Intn(len(pieces))]
	case api.Fixed:
		for range t.Width {
			v.Text += string("ab\xff"[c.Intn(3):][:1])
		}
	case api.List:
		n = c.Intn(3)
	case api.Span:
		n = t.Width
	case api.Struct:
		for _, g := range t.Fields {
			v.List = append(v.List, c.value(g))
		}
	case api.Choice:
		v.Num = int64(c.Intn(len(t.Fields)))
		v.List = []api.Value{c.value(t.Fields[v.Num])}
	case api.Dict, api.Runs:
		return c.value(t.Fields[0])
	default:
		v.Num = c.number(t.Kind)
	}
	for range n {
		v.List = append(v.List, c.value(t.Fields[0]))
	}
	return v
}

// column makes so many of them, some again.
func (c *chance) column(f api.Field, n int) []api.Value {
	var l []api.Value
	for range n {
		v := c.value(f)
		if len(l) > 0 && c.in(2) {
			v = l[c.Intn(len(l))]
		}
		l = append(l, v)
	}
	return l
}

// rows makes so many rows of a schema, some again.
func (c *chance) rows(s api.Schema, n int) [][]api.Value {
	l := make([][]api.Value, n)
	for _, f := range s.Fields {
		for i, v := range c.column(f, n) {
			l[i] = append(l[i], v)
		}
	}
	for i := range l {
		if c.in(3) {
			l[i] = slices.Clone(l[c.Intn(i+1)])
		}
	}
	return l
}

// anyhow makes an array that denotes values: with other rows around them, and noise where nobody looks.
func (c *chance) anyhow(t testing.TB, f api.Field, l []api.Value) api.Data {
	t.Helper()
	ahead, behind := c.column(f, c.Intn(3)), c.column(f, c.Intn(3))
	all := slices.Concat(ahead, l, behind)
	d := formOf(t, f, all)
	d.Offset, d.Length = len(ahead), len(l)
	if k := f.Type.Kind; k != api.Choice && k != api.Runs {
		d.Nulls = 0
		for _, v := range l {
			if v.Null {
				d.Nulls++
			}
		}
	}
	w := kind.Width(f.Type)
	for i, v := range all {
		for j := 0; v.Null && j < w; j++ {
			d.Buffers[1][i*w+j] = byte(c.Intn(256))
		}
	}
	for k, g := range kind.Parts(f.Type) {
		d.Children[k] = c.again(t, g, d.Children[k])
	}
	for k := range d.Dict {
		d.Dict[k] = c.again(t, f.Type.Fields[0], d.Dict[k])
	}
	return d
}

// again makes an array that denotes the same as another one, and lies otherwise.
func (c *chance) again(t testing.TB, f api.Field, d api.Data) api.Data {
	t.Helper()
	a, x := array.Open(f, d)
	if x.Err != api.OK {
		t.Fatalf("Open: %v", x)
	}
	return c.anyhow(t, f, a.Values())
}

// batch makes a batch of rows, whose columns lie anyhow.
func (c *chance) batch(t testing.TB, s api.Schema, rows [][]api.Value) api.Batch {
	t.Helper()
	b := api.Batch{Rows: len(rows)}
	for k, f := range s.Fields {
		var l []api.Value
		for _, row := range rows {
			l = append(l, row[k])
		}
		b.Columns = append(b.Columns, c.anyhow(t, f, l))
	}
	return b
}

// dressed makes a field of the same name whose bare field is a given one; it may be that there is none, and it is none that may be.
func (c *chance) dressed(f api.Field) api.Field {
	list := make([]api.Field, len(f.Type.Fields))
	for i, g := range f.Type.Fields {
		list[i] = c.dressed(g)
	}
	f.Type.Fields = list
	if mustDress := f.Nullable && f.Type.Kind == api.Choice; mustDress || c.in(3) && f.Type.Kind != api.Null && !holdsNames(f.Type) {
		within := api.Field{Name: "d", Type: f.Type}
		f.Type = api.Type{Kind: api.Dict, ID: c.ids % api.MaxDicts, Index: api.Int8 + c.Intn(8), Fields: []api.Field{within}}
		c.ids++
	}
	if c.in(6) {
		within := api.Field{Name: "r", Nullable: f.Nullable, Type: f.Type}
		f.Type = api.Type{Kind: api.Runs, Fields: []api.Field{within}}
	}
	return f
}

// partner makes a schema with columns that can be keys beside some of another one's, and their numbers.
func (c *chance) partner(s api.Schema, k1 []int) (api.Schema, []int) {
	for {
		c.ids = 0
		out := api.Schema{Notes: []api.Note{{Key: "k", Text: "of the right one"}}}
		for i := range c.Intn(3) {
			out.Fields = append(out.Fields, c.field(string(rune('p'+i)), 3*c.Intn(2), false))
		}
		for i, k := range k1 {
			f := modelBare(s.Fields[k])
			f.Name = string(rune('t' + i))
			if f.Type.Kind != api.Null {
				f.Nullable = c.in(2)
			}
			out.Fields = append(out.Fields, c.dressed(f))
		}
		var k2 []int
		for i := range k1 {
			k2 = append(k2, len(out.Fields)-len(k1)+i)
		}
		c.Shuffle(len(out.Fields), func(i, j int) {
			out.Fields[i], out.Fields[j] = out.Fields[j], out.Fields[i]
			for n, k := range k2 {
				switch k {
				case i:
					k2[n] = j
				case j:
					k2[n] = i
				}
			}
		})
		for i := range out.Fields {
			if c.in(12) {
				out.Fields[i].Name = s.Fields[c.Intn(len(s.Fields))].Name
			}
		}
		if kind.Check(out).Err == api.OK {
			return out, k2
		}
	}
}

// partners makes rows of a partner, many of them with the keys of one of the other one's rows.
func (c *chance) partners(s api.Schema, k2 []int, rows [][]api.Value, k1 []int, n int) [][]api.Value {
	l := c.rows(s, n)
	for _, row := range l {
		if len(rows) == 0 || c.in(4) {
			continue
		}
		like := rows[c.Intn(len(rows))]
		for i, k := range k2 {
			if v := like[k1[i]]; value.Fits(s.Fields[k], v) == api.OK && !c.in(9) {
				row[k] = v
			}
		}
	}
	return l
}

// ask makes what a call may be asked, without a fault up to the number of pairs, with so many rows at most.
func (c *chance) ask(t testing.TB, most int) ask {
	t.Helper()
	var a ask
	for len(a.l.s.Fields) == 0 {
		a.l.s = c.schema(4)
	}
	a.join = api.JoinInner + c.Intn(5)
	n := len(a.l.s.Fields)
	a.k1 = c.Perm(n)[:1+c.Intn(n)]
	a.r.s, a.k2 = c.partner(a.l.s, a.k1)
	left := c.rows(a.l.s, c.Intn(most+1))
	right := c.partners(a.r.s, a.k2, left, a.k1, c.Intn(most+1))
	a.l.b, a.r.b = c.batch(t, a.l.s, left), c.batch(t, a.r.s, right)
	return a
}

// hurt changes one thing of a field, so that it may be none, or another one.
func (c *chance) hurt(f *api.Field) {
	for len(f.Type.Fields) > 0 && !c.in(3) {
		f = &f.Type.Fields[c.Intn(len(f.Type.Fields))]
	}
	switch c.Intn(4) {
	case 0:
		f.Name += "?"
	case 1:
		f.Nullable = !f.Nullable
	case 2:
		f.Type.Kind = c.Intn(23) - 1
	case 3:
		f.Type.Width++
	}
}

// hurtArray changes one thing of an array, so that it may be none of its field.
func (c *chance) hurtArray(x *api.Data) {
	for len(x.Children) > 0 && !c.in(3) {
		x = &x.Children[c.Intn(len(x.Children))]
	}
	switch n := len(x.Buffers); c.Intn(4) {
	case 0:
		x.Length += c.Intn(9) - 4
	case 1:
		x.Nulls++
	case 2:
		x.Children, x.Dict = x.Dict, x.Children
	default:
		if n > 0 {
			b := x.Buffers[c.Intn(n)]
			x.Buffers[c.Intn(n)] = b[:c.Intn(len(b)+1)]
		}
	}
}
