package build

import (
	"encoding/binary"

	"colonnade/api"
)

// Arrays that lie anyhow.

// modelOff tells whether the validity of an array in the making says that row r is null.
func modelOff(d api.Data, r int) bool {
	return len(d.Buffers) > 0 && len(d.Buffers[0]) > 0 && d.Buffers[0][r/8]>>(r%8)&1 == 0
}

// validity makes a map of bits for rows, in which none is 0 where none may be null; often none at all.
func (c *chance) validity(f api.Field, offset, n int) []byte {
	if c.Intn(2) == 0 {
		return nil
	}
	b := c.noise((offset + n + 7) / 8)
	for i := offset; i < offset+n && !f.Nullable; i++ {
		b[i/8] |= 1 << (i % 8)
	}
	return b
}

// offsets makes offsets of n rows that don't fall, from 0 to most, and others around them.
func (c *chance) offsets(offset, n, most int) []byte {
	b := c.noise(4 * (offset + n + 1))
	at := c.Intn(most + 1)
	for i := range n + 1 {
		binary.LittleEndian.PutUint32(b[4*(offset+i):], uint32(at))
		at += c.Intn(min(3, most-at) + 1)
	}
	return b
}

// array makes an array of n rows of a field, lying anyhow.
func (c *chance) array(f api.Field, n int) api.Data {
	d := api.Data{Length: n, Offset: c.Intn(2) * c.Intn(4)}
	if modelMasked(f.Type.Kind) {
		d.Buffers = append(d.Buffers, c.validity(f, d.Offset, n))
		for i := range n {
			if modelOff(d, d.Offset+i) {
				d.Nulls++
			}
		}
	}
	c.lay(f, &d)
	return d
}

// lay lays what stands behind the validity.
func (c *chance) lay(f api.Field, d *api.Data) {
	end, t := d.Offset+d.Length, f.Type
	switch t.Kind {
	case api.Null:
		d.Nulls = d.Length
	case api.Bool:
		d.Buffers = append(d.Buffers, c.noise((end+7)/8))
	case api.Text, api.Bytes:
		c.layTexts(f, d)
	case api.Fixed:
		d.Buffers = append(d.Buffers, c.noise(end*t.Width))
	case api.List:
		items := c.array(t.Fields[0], c.Intn(2*d.Length+2))
		d.Buffers = append(d.Buffers, c.offsets(d.Offset, d.Length, items.Length))
		d.Children = []api.Data{items}
	case api.Span:
		d.Children = []api.Data{c.array(t.Fields[0], end*t.Width+c.Intn(3))}
	case api.Struct:
		for _, g := range t.Fields {
			d.Children = append(d.Children, c.array(g, end+c.Intn(3)))
		}
	case api.Choice:
		c.layChoice(f, d)
	case api.Dict:
		c.layDict(f, d)
	case api.Runs:
		c.layRuns(f, d)
	default:
		d.Buffers = append(d.Buffers, c.noise(end*modelWidths[t.Kind]))
	}
}

func (c *chance) layTexts(f api.Field, d *api.Data) {
	b := c.noise(0)
	offsets := c.noise(4 * (d.Offset + d.Length + 1))
	for i := range d.Length + 1 {
		binary.LittleEndian.PutUint32(offsets[4*(d.Offset+i):], uint32(len(b)))
		if i < d.Length && f.Type.Kind == api.Text && !modelOff(*d, d.Offset+i) {
			b = append(b, c.letters(c.Intn(4))...)
		} else {
			b = append(b, c.noise(0)...)
		}
	}
	d.Buffers = append(d.Buffers, offsets, b)
}

func (c *chance) layChoice(f api.Field, d *api.Data) {
	some := c.Intn(len(f.Type.Fields)) // a child that has rows for sure
	for k, g := range f.Type.Fields {
		n := c.Intn(4)
		if k == some {
			n++
		}
		d.Children = append(d.Children, c.array(g, n))
	}
	end := d.Offset + d.Length
	d.Buffers = [][]byte{c.noise(end), c.noise(4 * end)}
	for r := d.Offset; r < end; r++ {
		k := c.Intn(len(d.Children))
		if d.Children[k].Length == 0 {
			k = some
		}
		d.Buffers[0][r] = byte(k)
		binary.LittleEndian.PutUint32(d.Buffers[1][4*r:], uint32(c.Intn(d.Children[k].Length)))
	}
}

func (c *chance) layDict(f api.Field, d *api.Data) {
	values := c.array(f.Type.Fields[0], 1+c.Intn(4))
	end, width := d.Offset+d.Length, modelWidths[f.Type.Index]
	b := c.noise(end * width)
	for r := d.Offset; r < end; r++ {
		if !modelOff(*d, r) {
			clear(b[r*width : (r+1)*width])
			b[r*width] = byte(c.Intn(values.Length))
		}
	}
	d.Buffers, d.Dict = append(d.Buffers, b), []api.Data{values}
}

func (c *chance) layRuns(f api.Field, d *api.Data) {
	var l []int
	at := 0
	for at < d.Offset+d.Length || c.Intn(4) == 0 {
		at += 1 + c.Intn(4)
		l = append(l, at)
	}
	e := c.array(api.Field{Name: "ends", Type: api.Type{Kind: api.Int32}}, len(l))
	copy(e.Buffers[1][4*e.Offset:], modelInts(4, l...))
	d.Children = []api.Data{e, c.array(f.Type.Fields[0], len(l))}
}

// each goes through an array and all within it.
func each(d *api.Data, do func(*api.Data)) {
	do(d)
	for k := range d.Children {
		each(&d.Children[k], do)
	}
	for k := range d.Dict {
		each(&d.Dict[k], do)
	}
}

// one tells an array within an array, or itself.
func (c *chance) one(d *api.Data) *api.Data {
	var l []*api.Data
	each(d, func(x *api.Data) { l = append(l, x) })
	return l[c.Intn(len(l))]
}

// hurt does one thing to an array that may make it none.
func (c *chance) hurt(d *api.Data) {
	x := c.one(d)
	numbers := []*int{&x.Length, &x.Offset, &x.Nulls}
	switch n := len(x.Buffers); c.Intn(5) {
	case 0:
		*numbers[c.Intn(3)] = []int{-1, 1, 2, 4096, 4097, -1 << 63, 1<<63 - 1}[c.Intn(7)]
	case 1:
		x.Buffers = append(x.Buffers, nil)
	case 2:
		x.Children, x.Dict = x.Dict, x.Children
	case 3:
		if n > 0 {
			x.Buffers = x.Buffers[:n-1]
		}
	default:
		if n > 0 {
			b := x.Buffers[c.Intn(n)]
			for i := range b {
				b[i] ^= byte(c.Intn(256) & c.Intn(256) & c.Intn(256))
			}
		}
	}
}

// copiedData is the same array in memory of its own.
func copiedData(d api.Data) api.Data {
	x := api.Data{Length: d.Length, Offset: d.Offset, Nulls: d.Nulls}
	for _, b := range d.Buffers {
		x.Buffers = append(x.Buffers, append([]byte(nil), b...))
	}
	for _, p := range d.Children {
		x.Children = append(x.Children, copiedData(p))
	}
	for _, p := range d.Dict {
		x.Dict = append(x.Dict, copiedData(p))
	}
	return x
}
