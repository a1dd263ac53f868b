package array

import (
	"encoding/binary"
	"math/rand"
	"unicode/utf8"

	"colonnade/api"
)

// plainField is a field without children.
func plainField(name string, k int) api.Field {
	return api.Field{Name: name, Type: api.Type{Kind: k}}
}

// with is a field of a kind with these children.
func with(name string, k int, l ...api.Field) api.Field {
	return api.Field{Name: name, Type: api.Type{Kind: k, Fields: l}}
}

// wide is a field with a Width.
func wide(name string, k, width int, l ...api.Field) api.Field {
	f := with(name, k, l...)
	f.Type.Width = width
	return f
}

// dict is a field of kind Dict.
func dict(name string, index int, child api.Field) api.Field {
	f := with(name, api.Dict, child)
	f.Type.Index = index
	return f
}

// maybe is the same field, Nullable.
func maybe(f api.Field) api.Field {
	f.Nullable = true
	return f
}

var null = api.Value{Null: true}

func num(n int64) api.Value { return api.Value{Num: n} }

func text(s string) api.Value { return api.Value{Text: s} }

func list(l ...api.Value) api.Value { return api.Value{List: l} }

func chosen(n int64, v api.Value) api.Value { return api.Value{Num: n, List: []api.Value{v}} }

// int32s lays numbers of four bytes.
func int32s(l ...int) []byte {
	var b []byte
	for _, x := range l {
		b = binary.LittleEndian.AppendUint32(b, uint32(x))
	}
	return b
}

// What the document's tables say of kinds.
var (
	modelWidths  = map[int]int{api.Int8: 1, api.Int16: 2, api.Int32: 4, api.Int64: 8, api.Uint8: 1, api.Uint16: 2, api.Uint32: 4, api.Uint64: 8, api.Float64: 8}
	modelBuffers = map[int]int{api.Bool: 2, api.Text: 3, api.Bytes: 3, api.Fixed: 2, api.List: 2, api.Span: 1, api.Struct: 1, api.Choice: 2, api.Dict: 2}
)

// modelMasked tells whether arrays of a kind have a validity.
func modelMasked(k int) bool { return k != api.Null && k != api.Choice && k != api.Runs }

// modelWidth tells how many bytes a row has in a buffer of numbers or of Fixed.
func modelWidth(t api.Type) int {
	switch t.Kind {
	case api.Fixed:
		return t.Width
	case api.Dict:
		return modelWidths[t.Index]
	}
	return modelWidths[t.Kind]
}

// modelParts tells the fields of the parts, and the parts.
func modelParts(f api.Field, d api.Data) ([]api.Field, []api.Data) {
	switch f.Type.Kind {
	case api.Dict:
		return f.Type.Fields, d.Dict
	case api.Runs:
		return []api.Field{plainField("ends", api.Int32), f.Type.Fields[0]}, d.Children
	}
	return f.Type.Fields, d.Children
}

func modelBit(b []byte, i int) bool { return b[i/8]&(1<<(i%8)) != 0 }

// modelNumber tells the number r of a width, as a signed one or not.
func modelNumber(b []byte, r, width int, signed bool) int64 {
	b = b[r*width:]
	switch width {
	case 1:
		if signed {
			return int64(int8(b[0]))
		}
		return int64(b[0])
	case 2:
		x := binary.LittleEndian.Uint16(b)
		if signed {
			return int64(int16(x))
		}
		return int64(x)
	case 4:
		x := binary.LittleEndian.Uint32(b)
		if signed {
			return int64(int32(x))
		}
		return int64(x)
	}
	return int64(binary.LittleEndian.Uint64(b))
}

func modelOffset(b []byte, r int) int { return int(modelNumber(b, r, 4, true)) }

func modelSigned(k int) bool {
	return k == api.Int8 || k == api.Int16 || k == api.Int32 || k == api.Int64
}

// modelWeight is a value's weight.
func modelWeight(v api.Value) int {
	w := 16 + len(v.Text)
	for _, x := range v.List {
		w += modelWeight(x)
	}
	return w
}

// modelOff tells whether a validity says that row r is null.
func modelOff(f api.Field, d api.Data, r int) bool {
	return modelMasked(f.Type.Kind) && len(d.Buffers[0]) > 0 && !modelBit(d.Buffers[0], r)
}

// modelBounds tells p and q of row r, and whether they lie among so many.
func modelBounds(b []byte, r, most int) (p, q int, ok bool) {
	p, q = modelOffset(b, r), modelOffset(b, r+1)
	return p, q, p >= 0 && q >= p && q <= most
}

// modelRun tells the first run whose end is above r; -1: none.
func modelRun(d api.Data, r int) int {
	ends := d.Children[0]
	for k := range ends.Length {
		if modelOffset(ends.Buffers[1], ends.Offset+k) > r {
			return k
		}
	}
	return -1
}

// spot is a row of an array.
type spot struct {
	f   api.Field
	d   api.Data
	own int
}

// modelFrom tells the rows of parts that a row that isn't null is read from, and whether there are such.
func modelFrom(s spot) ([]spot, bool) {
	r := s.d.Offset + s.own
	fields, parts := modelParts(s.f, s.d)
	var l []spot
	switch s.f.Type.Kind {
	case api.List:
		p, q, ok := modelBounds(s.d.Buffers[1], r, parts[0].Length)
		for i := p; ok && i < q; i++ {
			l = append(l, spot{fields[0], parts[0], i})
		}
		return l, ok
	case api.Span:
		for i := range s.f.Type.Width {
			l = append(l, spot{fields[0], parts[0], r*s.f.Type.Width + i})
		}
	case api.Struct:
		for k := range parts {
			l = append(l, spot{fields[k], parts[k], r})
		}
	case api.Choice:
		k, x := int(s.d.Buffers[0][r]), modelOffset(s.d.Buffers[1], r)
		if k >= len(parts) || x < 0 || x >= parts[k].Length {
			return nil, false
		}
		l = []spot{{fields[k], parts[k], x}}
	case api.Dict:
		x := modelNumber(s.d.Buffers[1], r, modelWidth(s.f.Type), modelSigned(s.f.Type.Index))
		if x < 0 || x >= int64(parts[0].Length) {
			return nil, false
		}
		l = []spot{{fields[0], parts[0], int(x)}}
	case api.Runs:
		k := modelRun(s.d, r)
		if k < 0 {
			return nil, false
		}
		l = []spot{{fields[1], parts[1], k}}
	}
	return l, true
}

// modelRow is the document's table of how a row is read.
func modelRow(s spot) (v api.Value, ok bool) {
	r, t, b := s.d.Offset+s.own, s.f.Type, s.d.Buffers
	if t.Kind == api.Null || modelOff(s.f, s.d, r) {
		return null, true
	}
	from, ok := modelFrom(s)
	if !ok {
		return api.Value{}, false
	}
	for _, x := range from {
		y, ok := modelRow(x)
		if !ok {
			return api.Value{}, false
		}
		v.List = append(v.List, y)
	}
	switch t.Kind {
	case api.Bool:
		if modelBit(b[1], r) {
			v.Num = 1
		}
	case api.Fixed:
		v.Text = string(b[1][r*t.Width : (r+1)*t.Width])
	case api.Text, api.Bytes:
		p, q, ok := modelBounds(b[1], r, len(b[2]))
		if !ok || t.Kind == api.Text && !utf8.Valid(b[2][p:q]) {
			return api.Value{}, false
		}
		v.Text = string(b[2][p:q])
	case api.Choice:
		v.Num = int64(b[0][r])
	case api.Dict, api.Runs:
		v = v.List[0]
	case api.List, api.Span, api.Struct:
	default:
		v.Num = modelNumber(b[1], r, modelWidth(t), modelSigned(t.Kind))
	}
	return v, modelWeight(v) <= 4194304
}

// modelCost is the document's cost of a row that has a value.
func modelCost(s spot) int {
	r, t, cost := s.d.Offset+s.own, s.f.Type, 0
	if modelMasked(t.Kind) && len(s.d.Buffers[0]) > 0 {
		cost = 1
	}
	if modelOff(s.f, s.d, r) {
		return cost
	}
	switch t.Kind {
	case api.Bool:
		cost++
	case api.Text, api.Bytes:
		p, q, _ := modelBounds(s.d.Buffers[1], r, len(s.d.Buffers[2]))
		cost += 8 + q - p
	case api.List:
		cost += 8
	case api.Choice:
		cost += 5
	case api.Runs:
		cost += 4 * s.d.Children[0].Length
	default:
		cost += modelWidth(t)
	}
	from, _ := modelFrom(s)
	for _, x := range from {
		cost += modelCost(x)
	}
	return cost
}

// modelNulls tells how many rows from one on are null by their validity.
func modelNulls(f api.Field, d api.Data, r, n int) int {
	if f.Type.Kind == api.Null {
		return n
	}
	sum := 0
	for i := range n {
		if modelOff(f, d, r+i) {
			sum++
		}
	}
	return sum
}

// modelNull is what Null tells; not ok: ErrValue.
func modelNull(s spot) (null, ok bool) {
	if s.f.Type.Kind == api.Runs {
		from, ok := modelFrom(s)
		if !ok {
			return false, false
		}
		return modelNull(from[0])
	}
	return s.f.Type.Kind == api.Null || modelOff(s.f, s.d, s.d.Offset+s.own), true
}

// chance makes fields and arrays, always the same ones.
type chance struct {
	*rand.Rand
	ids int // dictionaries given out
}

func newChance(seed int64) *chance { return &chance{Rand: rand.New(rand.NewSource(seed))} }

// field makes a field that may be.
func (c *chance) field() api.Field {
	c.ids = 0
	return c.within("f", 3, false)
}

// within makes a field that may be, of at most so many levels below it.
func (c *chance) within(name string, depth int, inDict bool) api.Field {
	k := 1 + c.Intn(20)
	if depth == 0 {
		k = 1 + c.Intn(14)
	}
	if (k == api.Dict || k == api.Runs) && inDict || k == api.Dict && c.ids == api.MaxDicts {
		k = api.Struct
	}
	f := plainField(name, k)
	n := 0
	switch k {
	case api.Fixed:
		f.Type.Width = 1 + c.Intn(4)
	case api.Span:
		f.Type.Width = 1 + c.Intn(3)
		n = 1
	case api.List, api.Runs:
		n = 1
	case api.Struct:
		n = c.Intn(4)
	case api.Choice:
		n = 1 + c.Intn(4)
	case api.Dict:
		f.Type.ID, f.Type.Index = c.ids, api.Int8+c.Intn(8)
		c.ids++
		n = 1
	}
	for i := range n {
		f.Type.Fields = append(f.Type.Fields, c.within(string(rune('a'+i)), depth-1, inDict || k == api.Dict))
	}
	return c.nullable(f)
}

// nullable makes a field Nullable, or not, as it may be.
func (c *chance) nullable(f api.Field) api.Field {
	f.Nullable = c.Intn(2) == 0
	switch f.Type.Kind {
	case api.Null:
		f.Nullable = true
	case api.Choice:
		f.Nullable = false
	case api.Runs:
		f.Nullable = f.Type.Fields[0].Nullable
	case api.Dict:
		child := &f.Type.Fields[0]
		child.Nullable = false
		if child.Type.Kind == api.Null {
			child.Type.Kind = api.Bool
		}
	}
	return f
}

// noise makes so many bytes, and a few more.
func (c *chance) noise(n int) []byte {
	b := make([]byte, n+c.Intn(2)*c.Intn(4))
	c.Read(b)
	return b
}

// validity makes a map of bits for rows, in which none is 0 where none may be null; often none at all.
func (c *chance) validity(f api.Field, offset, n int) []byte {
	if c.Intn(2) == 0 {
		return nil
	}
	b := c.noise((offset + n + 7) / 8)
	for i := offset; i < offset+n && !f.Nullable; i++ {
		b[i/8] |= 1 << (i % 8)
	}
	return b
}

// offsets makes offsets of n rows that don't fall, from 0 to most, and others around them.
func (c *chance) offsets(offset, n, most int) []byte {
	b := c.noise(4 * (offset + n + 1))
	at := c.Intn(most + 1)
	for i := range n + 1 {
		binary.LittleEndian.PutUint32(b[4*(offset+i):], uint32(at))
		at += c.Intn(min(3, most-at) + 1)
	}
	return b
}

// array makes an array of n rows of a field, lying anyhow.
func (c *chance) array(f api.Field, n int) api.Data {
	d := api.Data{Length: n, Offset: c.Intn(2) * c.Intn(4)}
	if modelMasked(f.Type.Kind) {
		d.Buffers = append(d.Buffers, c.validity(f, d.Offset, n))
	}
	c.lay(f, &d)
	d.Nulls = modelNulls(f, d, d.Offset, n)
	return d
}

// lay lays what stands behind the validity.
func (c *chance) lay(f api.Field, d *api.Data) {
	end, t := d.Offset+d.Length, f.Type
	switch t.Kind {
	case api.Null:
	case api.Bool:
		d.Buffers = append(d.Buffers, c.noise((end+7)/8))
	case api.Text, api.Bytes:
		c.layTexts(f, d)
	case api.List:
		items := c.array(t.Fields[0], c.Intn(2*d.Length+2))
		d.Buffers = append(d.Buffers, c.offsets(d.Offset, d.Length, items.Length))
		d.Children = []api.Data{items}
	case api.Span:
		d.Children = []api.Data{c.array(t.Fields[0], end*t.Width+c.Intn(3))}
	case api.Struct:
		for _, g := range t.Fields {
			d.Children = append(d.Children, c.array(g, end+c.Intn(3)))
		}
	case api.Choice:
		c.layChoice(f, d)
	case api.Dict:
		c.layDict(f, d)
	case api.Runs:
		c.layRuns(f, d)
	default:
		d.Buffers = append(d.Buffers, c.noise(end*modelWidth(t)))
	}
}

func (c *chance) layTexts(f api.Field, d *api.Data) {
	b := c.noise(0)
	offsets := c.noise(4 * (d.Offset + d.Length + 1))
	for i := range d.Length + 1 {
		binary.LittleEndian.PutUint32(offsets[4*(d.Offset+i):], uint32(len(b)))
		if i < d.Length && f.Type.Kind == api.Text && !modelOff(f, *d, d.Offset+i) {
			b = append(b, []string{"", "", "a", "é", "ab", "\U0001f600", "\ufffd", "\x00"}[c.Intn(8)]...)
		} else {
			b = append(b, c.noise(0)...)
		}
	}
	d.Buffers = append(d.Buffers, offsets, b)
}

func (c *chance) layChoice(f api.Field, d *api.Data) {
	some := c.Intn(len(f.Type.Fields)) // a child that has rows for sure
	for k, g := range f.Type.Fields {
		n := c.Intn(4)
		if k == some {
			n++
		}
		d.Children = append(d.Children, c.array(g, n))
	}
	end := d.Offset + d.Length
	d.Buffers = [][]byte{c.noise(end), c.noise(4 * end)}
	for r := d.Offset; r < end; r++ {
		k := c.Intn(len(d.Children))
		if d.Children[k].Length == 0 {
			k = some
		}
		d.Buffers[0][r] = byte(k)
		binary.LittleEndian.PutUint32(d.Buffers[1][4*r:], uint32(c.Intn(d.Children[k].Length)))
	}
}

func (c *chance) layDict(f api.Field, d *api.Data) {
	values := c.array(f.Type.Fields[0], 1+c.Intn(4))
	end, width := d.Offset+d.Length, modelWidth(f.Type)
	b := c.noise(end * width)
	for r := d.Offset; r < end; r++ {
		if !modelOff(f, *d, r) {
			clear(b[r*width : (r+1)*width])
			b[r*width] = byte(c.Intn(values.Length))
		}
	}
	d.Buffers, d.Dict = append(d.Buffers, b), []api.Data{values}
}

func (c *chance) layRuns(f api.Field, d *api.Data) {
	var l []int
	at := 0
	for at < d.Offset+d.Length || c.Intn(4) == 0 {
		at += 1 + c.Intn(4)
		l = append(l, at)
	}
	ends := plainField("ends", api.Int32)
	e := c.array(ends, len(l))
	copy(e.Buffers[1][4*e.Offset:], int32s(l...))
	d.Children = []api.Data{e, c.array(f.Type.Fields[0], len(l))}
}

// each goes through an array and all within it.
func each(d *api.Data, do func(*api.Data)) {
	do(d)
	for k := range d.Children {
		each(&d.Children[k], do)
	}
	for k := range d.Dict {
		each(&d.Dict[k], do)
	}
}

// one tells an array within an array, or itself.
func (c *chance) one(d *api.Data) *api.Data {
	var l []*api.Data
	each(d, func(x *api.Data) { l = append(l, x) })
	return l[c.Intn(len(l))]
}

// write writes into a few bytes of an array.
func (c *chance) write(d *api.Data) {
	for range 1 + c.Intn(3) {
		x := c.one(d)
		if len(x.Buffers) == 0 {
			continue
		}
		b := x.Buffers[c.Intn(len(x.Buffers))]
		if len(b) == 0 {
			continue
		}
		at := c.Intn(len(b))
		switch c.Intn(4) {
		case 0:
			b[at] ^= 1 << c.Intn(8)
		case 1:
			b[at] = []byte{0, 1, 2, 0x7f, 0x80, 0xff}[c.Intn(6)]
		case 2: // a small number of four bytes
			copy(b[at/4*4:], int32s(c.Intn(8)-1))
		case 3:
			b[at]++
		}
	}
}

// wrongNumber makes a number in the place of another one.
func (c *chance) wrongNumber(n int) int {
	return []int{n + 1, n - 1, n + 2, 0, -1, 4096, 4097, -1 << 63, 1<<63 - 1, 1 << 62}[c.Intn(10)]
}

// hurt does one thing to an array that may make it none.
func (c *chance) hurt(d *api.Data) {
	x := c.one(d)
	switch c.Intn(10) {
	case 0:
		x.Length = c.wrongNumber(x.Length)
	case 1:
		x.Offset = c.wrongNumber(x.Offset)
	case 2:
		x.Nulls = c.wrongNumber(x.Nulls)
	case 3:
		x.Buffers = append(x.Buffers, nil)
	case 4:
		if n := len(x.Buffers); n > 0 {
			x.Buffers = x.Buffers[:n-1]
		}
	case 5:
		x.Children, x.Dict = x.Dict, x.Children
	case 6:
		x.Children = append(x.Children, api.Data{})
	case 7:
		if n := len(x.Buffers); n > 0 {
			k := c.Intn(n)
			x.Buffers[k] = x.Buffers[k][:c.Intn(len(x.Buffers[k])+1)]
		}
	default:
		c.write(x)
	}
}

// copiedData is the same array in memory of its own.
func copiedData(d api.Data) api.Data {
	x := api.Data{Length: d.Length, Offset: d.Offset, Nulls: d.Nulls}
	for _, b := range d.Buffers {
		x.Buffers = append(x.Buffers, append([]byte(nil), b...))
	}
	for _, p := range d.Children {
		x.Children = append(x.Children, copiedData(p))
	}
	for _, p := range d.Dict {
		x.Dict = append(x.Dict, copiedData(p))
	}
	return x
}
