package file

import (
	"encoding/binary"
	"math/rand"
	"strings"

	"colonnade/api"
	"colonnade/kind"
)

// chance makes schemas, and batches whose arrays lie anyhow, always the same ones.
type chance struct {
	*rand.Rand
	ids int  // dictionaries given out
	few bool // values are of few kinds, so that dictionaries hold the same ones again
}

func newChance(seed int64) *chance { return &chance{Rand: rand.New(rand.NewSource(seed))} }

// schema makes a schema that may be, of at most so many fields, with notes; its dictionaries' numbers do not rise.
func (c *chance) schema(most int) api.Schema {
	c.ids = 0
	var s api.Schema
	for i := range c.Intn(most + 1) {
		s.Fields = append(s.Fields, c.within(string(rune('a'+i)), 3, false))
	}
	for range c.Intn(3) {
		s.Notes = append(s.Notes, api.Note{Key: c.letters(c.Intn(4)), Text: string(c.noise(c.Intn(5)))})
	}
	return s
}

// within makes a field that may be, of at most so many levels below it.
func (c *chance) within(name string, depth int, inDict bool) api.Field {
	k := 1 + c.Intn(20)
	if depth == 0 {
		k = 1 + c.Intn(14)
	}
	if !inDict && c.Intn(3) == 0 { // what a file's messages are most of all about
		k = api.Dict
	}
	if (k == api.Dict || k == api.Runs) && inDict || k == api.Dict && (c.ids == api.MaxDicts || depth == 0) {
		k = api.Text
	}
	f := api.Field{Name: name, Type: api.Type{Kind: k}}
	n := 0
	switch k {
	case api.Fixed:
		f.Type.Width = 1 + c.Intn(4)
	case api.Span:
		f.Type.Width = 1 + c.Intn(3)
		n = 1
	case api.List, api.Runs:
		n = 1
	case api.Struct:
		n = c.Intn(4)
	case api.Choice:
		n = 1 + c.Intn(4)
	case api.Dict:
		f.Type.ID, f.Type.Index = (7*c.ids+5)%api.MaxDicts, api.Int8+c.Intn(8)*c.Intn(2)
		c.ids++
		n = 1
	}
	for i := range n {
		f.Type.Fields = append(f.Type.Fields, c.within(string(rune('a'+i)), depth-1, inDict || k == api.Dict))
	}
	return c.nullable(f)
}

// nullable makes a field Nullable, or not, as it may be.
func (c *chance) nullable(f api.Field) api.Field {
	f.Nullable = c.Intn(2) == 0
	switch f.Type.Kind {
	case api.Null:
		f.Nullable = true
	case api.Choice:
		f.Nullable = false
	case api.Runs:
		f.Nullable = f.Type.Fields[0].Nullable
	case api.Dict:
		child := &f.Type.Fields[0]
		child.Nullable = false
		if child.Type.Kind == api.Null {
			child.Type.Kind = api.Bool
		}
	}
	return f
}

// noise makes so many bytes, and at times a few more.
func (c *chance) noise(n int) []byte {
	b := make([]byte, n+c.Intn(2)*c.Intn(4))
	if !c.few {
		c.Read(b)
		return b
	}
	for i := range b {
		b[i] = byte(c.Intn(8) / 7)
	}
	return b
}

// letters makes a text of a few letters.
func (c *chance) letters(n int) string {
	var s strings.Builder
	for range n {
		s.WriteString([]string{"a", "b", "é", "\x00", "\U0001f600", "\ufffd"}[c.Intn(6)])
		if c.few {
			break
		}
	}
	return s.String()
}

// masked tells whether arrays of a kind have a validity.
func masked(k int) bool { return k != api.Null && k != api.Choice && k != api.Runs }

// off tells whether row r, Offset counted, is null by its own array.
func off(f api.Field, d api.Data, r int) bool {
	return masked(f.Type.Kind) && len(d.Buffers[0]) > 0 && d.Buffers[0][r/8]>>(r%8)&1 == 0
}

// validity makes a map of bits for rows, in which none is 0 where none may be null; often none at all.
func (c *chance) validity(f api.Field, offset, n int) []byte {
	if c.Intn(3) == 0 {
		return nil
	}
	b := make([]byte, (offset+n+7)/8)
	c.Read(b)
	for i := offset; i < offset+n && !f.Nullable; i++ {
		b[i/8] |= 1 << (i % 8)
	}
	return b
}

// offsets makes offsets of n rows that don't fall, from 0 to most, and others around them.
func (c *chance) offsets(offset, n, most int) []byte {
	b := c.noise(4 * (offset + n + 1))
	at := c.Intn(most + 1)
	for i := range n + 1 {
		binary.LittleEndian.PutUint32(b[4*(offset+i):], uint32(at))
		at += c.Intn(min(3, most-at) + 1)
	}
	return b
}

// array makes an array of n rows of a field, lying anyhow.
func (c *chance) array(f api.Field, n int) api.Data {
	d := api.Data{Length: n, Offset: c.Intn(2) * c.Intn(4)}
	if masked(f.Type.Kind) {
		d.Buffers = append(d.Buffers, c.validity(f, d.Offset, n))
		for i := range n {
			if off(f, d, d.Offset+i) {
				d.Nulls++
			}
		}
	}
	c.lay(f, &d)
	return d
}

// lay lays what stands behind the validity.
func (c *chance) lay(f api.Field, d *api.Data) {
	end, t := d.Offset+d.Length, f.Type
	switch t.Kind {
	case api.Null:
		d.Nulls = d.Length
	case api.Bool:
		d.Buffers = append(d.Buffers, c.noise((end+7)/8))
	case api.Text, api.Bytes:
		c.layTexts(f, d)
	case api.List:
		items := c.array(t.Fields[0], c.Intn(2*d.Length+2))
		d.Buffers = append(d.Buffers, c.offsets(d.Offset, d.Length, items.Length))
		d.Children = []api.Data{items}
	case api.Span:
		d.Children = []api.Data{c.array(t.Fields[0], end*t.Width+c.Intn(3))}
	case api.Struct:
		for _, g := range t.Fields {
			d.Children = append(d.Children, c.array(g, end+c.Intn(3)))
		}
	case api.Choice:
		c.layChoice(f, d)
	case api.Dict:
		c.layDict(f, d)
	case api.Runs:
		c.layRuns(f, d)
	default:
		d.Buffers = append(d.Buffers, c.noise(end*kind.Width(t)))
	}
}

func (c *chance) layTexts(f api.Field, d *api.Data) {
	b := c.noise(0)
	offsets := c.noise(4 * (d.Offset + d.Length + 1))
	for i := range d.Length + 1 {
		binary.LittleEndian.PutUint32(offsets[4*(d.Offset+i):], uint32(len(b)))
		if i < d.Length && f.Type.Kind == api.Text && !off(f, *d, d.Offset+i) {
			b = append(b, c.letters(c.Intn(4))...)
		} else {
			b = append(b, c.noise(0)...)
		}
	}
	d.Buffers = append(d.Buffers, offsets, b)
}

func (c *chance) layChoice(f api.Field, d *api.Data) {
	some := c.Intn(len(f.Type.Fields)) // a child that has rows for sure
	for k, g := range f.Type.Fields {
		n := c.Intn(4)
		if k == some {
			n++
		}
		d.Children = append(d.Children, c.array(g, n))
	}
	end := d.Offset + d.Length
	d.Buffers = [][]byte{c.noise(end), c.noise(4 * end)}
	for r := d.Offset; r < end; r++ {
		k := c.Intn(len(d.Children))
		if d.Children[k].Length == 0 {
			k = some
		}
		d.Buffers[0][r] = byte(k)
		binary.LittleEndian.PutUint32(d.Buffers[1][4*r:], uint32(c.Intn(d.Children[k].Length)))
	}
}

func (c *chance) layDict(f api.Field, d *api.Data) {
	c.few = c.Intn(4) > 0
	values := c.array(f.Type.Fields[0], 1+c.Intn(4))
	c.few = false
	end, width := d.Offset+d.Length, kind.Width(f.Type)
	b := c.noise(end * width)
	for r := d.Offset; r < end; r++ {
		if !off(f, *d, r) {
			clear(b[r*width : (r+1)*width])
			b[r*width] = byte(c.Intn(values.Length))
		}
	}
	d.Buffers, d.Dict = append(d.Buffers, b), []api.Data{values}
}

func (c *chance) layRuns(f api.Field, d *api.Data) {
	var l []byte
	at := 0
	for at < d.Offset+d.Length || c.Intn(4) == 0 {
		at += 1 + c.Intn(4)
		l = binary.LittleEndian.AppendUint32(l, uint32(at))
	}
	e := c.array(api.Field{Name: "ends", Type: api.Type{Kind: api.Int32}}, len(l)/4)
	copy(e.Buffers[1][4*e.Offset:], l)
	d.Children = []api.Data{e, c.array(f.Type.Fields[0], len(l)/4)}
}

// batch makes a batch of a schema.
func (c *chance) batch(s api.Schema, rows int) api.Batch {
	b := api.Batch{Rows: rows}
	for _, f := range s.Fields {
		b.Columns = append(b.Columns, c.array(f, rows))
	}
	return b
}

// table makes a table of a schema of at most so many fields.
func (c *chance) table(most int) api.Table {
	t := api.Table{Schema: c.schema(most)}
	for range c.Intn(6) {
		t.Batches = append(t.Batches, c.batch(t.Schema, c.Intn(9)))
	}
	return t
}

// columns makes numbers of columns, most of them ones that n columns have.
func (c *chance) columns(n int) []int {
	var l []int
	for range c.Intn(5) {
		l = append(l, c.Intn(max(n, 1)))
		if c.Intn(20) == 0 {
			l[len(l)-1] = []int{-1, n, n + 1, -1 << 63, 1<<63 - 1}[c.Intn(5)]
		}
	}
	return l
}

// option makes one that may be.
func (c *chance) option() api.Option { return api.Option{Press: c.Intn(3), Delta: c.Intn(2) == 0} }

// odd is a number that is seldom right.
func (c *chance) odd() int {
	return []int{-1, 0, 1, 2, 8, 16, 4096, 4097, 65536, 65537, -1 << 63, 1<<63 - 1}[c.Intn(12)]
}

// hurt does one thing to a batch that may make it none of its schema.
func (c *chance) hurt(b *api.Batch) {
	if len(b.Columns) == 0 || c.Intn(8) == 0 {
		b.Rows = c.odd()
		return
	}
	var l []*api.Data
	each(&b.Columns[c.Intn(len(b.Columns))], func(d *api.Data) { l = append(l, d) })
	x := l[c.Intn(len(l))]
	switch n := len(x.Buffers); c.Intn(4) {
	case 0:
		*[]*int{&x.Length, &x.Offset, &x.Nulls}[c.Intn(3)] = c.odd()
	case 1:
		x.Buffers = append(x.Buffers[:n:n], nil)
	case 2:
		x.Children, x.Dict = x.Dict, x.Children
	default:
		if n > 0 {
			c.scratch(x.Buffers[c.Intn(n)])
		}
	}
}

// scratch writes into bytes here and there.
func (c *chance) scratch(b []byte) {
	for i := range b {
		b[i] ^= byte(c.Intn(256) & c.Intn(256) & c.Intn(256) & c.Intn(256))
	}
}

// each goes through an array and all within it.
func each(d *api.Data, do func(*api.Data)) {
	do(d)
	for k := range d.Children {
		each(&d.Children[k], do)
	}
	for k := range d.Dict {
		each(&d.Dict[k], do)
	}
}
