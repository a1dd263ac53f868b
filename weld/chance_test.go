package weld

import (
	"encoding/binary"
	"math/rand"
	"strings"

	"colonnade/api"
	"colonnade/kind"
)

// chance makes fields, and arrays that lie anyhow, always the same ones.
type chance struct {
	*rand.Rand
	ids int // dictionaries given out
}

func newChance(seed int64) *chance { return &chance{Rand: rand.New(rand.NewSource(seed))} }

// field makes a field that may be.
func (c *chance) field() api.Field {
	c.ids = 0
	return c.within("f", 3, false)
}

// schema makes a schema that may be, of at most so many fields.
func (c *chance) schema(most int) api.Schema {
	c.ids = 0
	return c.schemaFrom('a', most)
}

// schemaFrom makes one whose names begin at a letter, with other dictionaries than those that were given out.
func (c *chance) schemaFrom(first rune, most int) api.Schema {
	var s api.Schema
	for i := range c.Intn(most + 1) {
		s.Fields = append(s.Fields, c.within(string(first+rune(i)), 3, false))
	}
	return s
}

// within makes a field that may be, of at most so many levels below it.
func (c *chance) within(name string, depth int, inDict bool) api.Field {
	k := 1 + c.Intn(20)
	if depth == 0 {
		k = 1 + c.Intn(14)
	}
	if (k == api.Dict || k == api.Runs) && inDict || k == api.Dict && c.ids == api.MaxDicts {
		k = api.Struct
	}
	f := api.Field{Name: name, Type: api.Type{Kind: k}}
	n := 0
	switch k {
	case api.Fixed:
		f.Type.Width = 1 + c.Intn(4)
	case api.Span:
		f.Type.Width = 1 + c.Intn(3)
		n = 1
	case api.List, api.Runs:
		n = 1
	case api.Struct:
		n = c.Intn(4)
	case api.Choice:
		n = 1 + c.Intn(4)
	case api.Dict:
		f.Type.ID, f.Type.Index = c.ids, api.Int8+c.Intn(8)*c.Intn(2)
		c.ids++
		n = 1
	}
	for i := range n {
		f.Type.Fields = append(f.Type.Fields, c.within(string(rune('a'+i)), depth-1, inDict || k == api.Dict))
	}
	return c.nullable(f)
}

// nullable makes a field Nullable, or not, as it may be.
func (c *chance) nullable(f api.Field) api.Field {
	f.Nullable = c.Intn(2) == 0
	switch f.Type.Kind {
	case api.Null:
		f.Nullable = true
	case api.Choice:
		f.Nullable = false
	case api.Runs:
		f.Nullable = f.Type.Fields[0].Nullable
	case api.Dict:
		child := &f.Type.Fields[0]
		child.Nullable = false
		if child.Type.Kind == api.Null {
			child.Type.Kind = api.Bool
		}
	}
	return f
}

// noise makes so many bytes, and at times a few more.
func (c *chance) noise(n int) []byte {
	b := make([]byte, n+c.Intn(2)*c.Intn(4))
	c.Read(b)
	return b
}

// letters makes a text of a few letters.
func (c *chance) letters(n int) string {
	var s strings.Builder
	for range n {
		s.WriteString([]string{"a", "b", "é", "\x00", "\U0001f600", "\ufffd"}[c.Intn(6)])
	}
	return s.String()
}

// hasValidity tells whether arrays of a kind have a validity.
func hasValidity(k int) bool { return k != api.Null && k != api.Choice && k != api.Runs }

// off tells whether row r, Offset counted, is null by its own array.
func off(f api.Field, d api.Data, r int) bool {
	return hasValidity(f.Type.Kind) && len(d.Buffers[0]) > 0 && d.Buffers[0][r/8]>>(r%8)&1 == 0
}

// validity makes a map of bits for rows, in which none is 0 where none may be null; often none at all.
func (c *chance) validity(f api.Field, offset, n int) []byte {
	if c.Intn(3) == 0 {
		return nil
	}
	b := c.noise((offset + n + 7) / 8)
	for i := offset; i < offset+n && !f.Nullable; i++ {
		b[i/8] |= 1 << (i % 8)
	}
	return b
}

// offsets makes offsets of n rows that don't fall, from 0 to most, and others around them.
func (c *chance) offsets(offset, n, most int) []byte {
	b := c.noise(4 * (offset + n + 1))
	at := c.Intn(most + 1)
	for i := range n + 1 {
		binary.LittleEndian.PutUint32(b[4*(offset+i):], uint32(at))
		at += c.Intn(min(3, most-at) + 1)
	}
	return b
}

// array makes an array of n rows of a field, lying anyhow.
func (c *chance) array(f api.Field, n int) api.Data {
	d := api.Data{Length: n, Offset: c.Intn(2) * c.Intn(4)}
	if hasValidity(f.Type.Kind) {
		d.Buffers = append(d.Buffers, c.validity(f, d.Offset, n))
		for i := range n {
			if off(f, d, d.Offset+i) {
				d.Nulls++
			}
		}
	}
	c.lay(f, &d)
	return d
}

// lay lays what stands behind the validity.
func (c *chance) lay(f api.Field, d *api.Data) {
	end, t := d.Offset+d.Length, f.Type
	switch t.Kind {
	case api.Null:
		d.Nulls = d.Length
	case api.Bool:
		d.Buffers = append(d.Buffers, c.noise((end+7)/8))
	case api.Text, api.Bytes:
		c.layTexts(f, d)
	case api.List:
		items := c.array(t.Fields[0], c.Intn(2*d.Length+2))
		d.Buffers = append(d.Buffers, c.offsets(d.Offset, d.Length, items.Length))
		d.Children = []api.Data{items}
	case api.Span:
		d.Children = []api.Data{c.array(t.Fields[0], end*t.Width+c.Intn(3))}
	case api.Struct:
		for _, g := range t.Fields {
			d.Children = append(d.Children, c.array(g, end+c.Intn(3)))
		}
	case api.Choice:
		c.layChoice(f, d)
	case api.Dict:
		c.layDict(f, d)
	case api.Runs:
		c.layRuns(f, d)
	default:
		d.Buffers = append(d.Buffers, c.noise(end*kind.Width(t)))
	}
}

func (c *chance) layTexts(f api.Field, d *api.Data) {
	b := c.noise(0)
	offsets := c.noise(4 * (d.Offset + d.Length + 1))
	for i := range d.Length + 1 {
		binary.LittleEndian.PutUint32(offsets[4*(d.Offset+i):], uint32(len(b)))
		if i < d.Length && f.Type.Kind == api.Text && !off(f, *d, d.Offset+i) {
			b = append(b, c.letters(c.Intn(4))...)
		} else {
			b = append(b, c.noise(0)...)
		}
	}
	d.Buffers = append(d.Buffers, offsets, b)
}

func (c *chance) layChoice(f api.Field, d *api.Data) {
	some := c.Intn(len(f.Type.Fields)) // a child that has rows for sure
	for k, g := range f.Type.Fields {
		n := c.Intn(4)
		if k == some {
			n++
		}
		d.Children = append(d.Children, c.array(g, n))
	}
	end := d.Offset + d.Length
	d.Buffers = [][]byte{c.noise(end), c.noise(4 * end)}
	for r := d.Offset; r < end; r++ {
		k := c.Intn(len(d.Children))
		if d.Children[k].Length == 0 {
			k = some
		}
		d.Buffers[0][r] = byte(k)
		binary.LittleEndian.PutUint32(d.Buffers[1][4*r:], uint32(c.Intn(d.Children[k].Length)))
	}
}

func (c *chance) layDict(f api.Field, d *api.Data) {
	values := c.array(f.Type.Fields[0], 1+c.Intn(4))
	end, width := d.Offset+d.Length, kind.Width(f.Type)
	b := c.noise(end * width)
	for r := d.Offset; r < end; r++ {
		if !off(f, *d, r) {
			clear(b[r*width : (r+1)*width])
			b[r*width] = byte(c.Intn(values.Length))
		}
	}
	d.Buffers, d.Dict = append(d.Buffers, b), []api.Data{values}
}

func (c *chance) layRuns(f api.Field, d *api.Data) {
	var l []byte
	at := 0
	for at < d.Offset+d.Length || c.Intn(4) == 0 {
		at += 1 + c.Intn(4)
		l = binary.LittleEndian.AppendUint32(l, uint32(at))
	}
	e := c.array(api.Field{Name: "ends", Type: api.Type{Kind: api.Int32}}, len(l)/4)
	copy(e.Buffers[1][4*e.Offset:], l)
	d.Children = []api.Data{e, c.array(f.Type.Fields[0], len(l)/4)}
}

// batch makes a batch of a schema.
func (c *chance) batch(s api.Schema, rows int) api.Batch {
	b := api.Batch{Rows: rows}
	for _, f := range s.Fields {
		b.Columns = append(b.Columns, c.array(f, rows))
	}
	return b
}

// batches makes a few batches of a schema.
func (c *chance) batches(s api.Schema) []api.Batch {
	var l []api.Batch
	for range c.Intn(5) {
		l = append(l, c.batch(s, c.Intn(2)*c.Intn(7)))
	}
	return l
}

// arrays makes a few arrays of a field.
func (c *chance) arrays(f api.Field) []api.Data {
	var l []api.Data
	for range c.Intn(5) {
		l = append(l, c.array(f, c.Intn(2)*c.Intn(7)))
	}
	return l
}

// odd is a number that is seldom a row's.
func (c *chance) odd(rows int) int {
	return []int{-1, -2, rows, rows + 1, 4095, 4096, 1 << 32, 1<<32 + 1, -1<<32 + 1, -1 << 63, 1<<63 - 1}[c.Intn(11)]
}

// through goes through an array and all within it.
func through(d *api.Data, do func(*api.Data)) {
	do(d)
	for k := range d.Children {
		through(&d.Children[k], do)
	}
	for k := range d.Dict {
		through(&d.Dict[k], do)
	}
}

// hurt does one thing to an array that may make it none of its field.
func (c *chance) hurt(d *api.Data) {
	var l []*api.Data
	through(d, func(x *api.Data) { l = append(l, x) })
	x := l[c.Intn(len(l))]
	switch n := len(x.Buffers); c.Intn(4) {
	case 0:
		*[]*int{&x.Length, &x.Offset, &x.Nulls}[c.Intn(3)] = c.odd(x.Length)
	case 1:
		x.Buffers = append(x.Buffers[:n:n], nil)
	case 2:
		x.Children, x.Dict = x.Dict, x.Children
	default:
		if n > 0 {
			b := x.Buffers[c.Intn(n)]
			for i := range b {
				b[i] ^= byte(c.Intn(256) & c.Intn(256) & c.Intn(256))
			}
		}
	}
}
