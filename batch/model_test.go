package batch

import (
	"encoding/binary"
	"slices"

	"colonnade/api"
	"colonnade/array"
	"colonnade/kind"
	"colonnade/meta"
	"colonnade/press"
)

// sameData tells whether two arrays lie alike.
func sameData(a, b api.Data) bool {
	return a.Length == b.Length && a.Offset == b.Offset && a.Nulls == b.Nulls &&
		slices.EqualFunc(a.Buffers, b.Buffers, slices.Equal[[]byte]) &&
		slices.EqualFunc(a.Children, b.Children, sameData) && slices.EqualFunc(a.Dict, b.Dict, sameData)
}

func sameBatch(a, b api.Batch) bool {
	return a.Rows == b.Rows && slices.EqualFunc(a.Columns, b.Columns, sameData)
}

func sameFault(a, b api.Fault) bool {
	return a.Err == b.Err && a.At == b.At && slices.Equal(a.Path, b.Path)
}

func sameHead(a, b api.Head) bool {
	return a.Kind == b.Kind && len(a.Schema.Fields) == len(b.Schema.Fields) && len(a.Schema.Notes) == len(b.Schema.Notes) &&
		a.ID == b.ID && a.Delta == b.Delta && a.Rows == b.Rows && a.Press == b.Press &&
		slices.Equal(a.Nodes, b.Nodes) && slices.Equal(a.Slots, b.Slots)
}

// What the document's tables say of kinds.
var (
	modelWidths  = map[int]int{api.Int8: 1, api.Int16: 2, api.Int32: 4, api.Int64: 8, api.Uint8: 1, api.Uint16: 2, api.Uint32: 4, api.Uint64: 8, api.Float64: 8}
	modelBuffers = map[int]int{api.Null: 0, api.Text: 3, api.Bytes: 3, api.Span: 1, api.Struct: 1, api.Runs: 0}
	modelEnds    = api.Field{Name: "ends", Type: api.Type{Kind: api.Int32}}
)

// modelMasked tells whether arrays of a kind have a validity.
func modelMasked(k int) bool { return k != api.Null && k != api.Choice && k != api.Runs }

// modelWidth tells how many bytes a row has in a buffer of numbers or of Fixed.
func modelWidth(t api.Type) int {
	switch t.Kind {
	case api.Fixed:
		return t.Width
	case api.Dict:
		return modelWidths[t.Index]
	}
	return modelWidths[t.Kind]
}

// modelOff tells whether row r, Offset counted, is null by its own array.
func modelOff(f api.Field, d api.Data, r int) bool {
	if f.Type.Kind == api.Null {
		return true
	}
	return modelMasked(f.Type.Kind) && len(d.Buffers[0]) > 0 && d.Buffers[0][r/8]>>(r%8)&1 == 0
}

// modelInts lays numbers of four bytes.
func modelInts(l ...int) []byte {
	var b []byte
	for _, x := range l {
		b = binary.LittleEndian.AppendUint32(b, uint32(x))
	}
	return b
}

// modelInt tells the number r of a buffer of numbers of four bytes.
func modelInt(b []byte, r int) int { return int(int32(binary.LittleEndian.Uint32(b[4*r:]))) }

// modelBits lays bits.
func modelBits(l []bool) []byte {
	b := make([]byte, (len(l)+7)/8)
	for i, on := range l {
		if on {
			b[i/8] |= 1 << (i % 8)
		}
	}
	return b
}

// modelRun tells the first run whose end is above r.
func modelRun(d api.Data, r int) int {
	ends := d.Children[0]
	k := 0
	for modelInt(ends.Buffers[1], ends.Offset+k) <= r {
		k++
	}
	return k
}

// modelIndex tells the index number r of a Dict that isn't null.
func modelIndex(t api.Type, d api.Data, r int) int {
	w := modelWidth(t)
	return int(binary.LittleEndian.Uint64(append(slices.Clone(d.Buffers[1][r*w:(r+1)*w]), make([]byte, 8)...)))
}

// modelWeight tells what row i of an array weighs.
func modelWeight(f api.Field, d api.Data, i int) int {
	r, t := d.Offset+i, f.Type
	if modelOff(f, d, r) {
		return 16
	}
	w := 16
	switch t.Kind {
	case api.Text, api.Bytes:
		w += modelInt(d.Buffers[1], r+1) - modelInt(d.Buffers[1], r)
	case api.Fixed:
		w += t.Width
	case api.List:
		for j := modelInt(d.Buffers[1], r); j < modelInt(d.Buffers[1], r+1); j++ {
			w += modelWeight(t.Fields[0], d.Children[0], j)
		}
	case api.Span:
		for j := range t.Width {
			w += modelWeight(t.Fields[0], d.Children[0], r*t.Width+j)
		}
	case api.Struct:
		for k, g := range t.Fields {
			w += modelWeight(g, d.Children[k], r)
		}
	case api.Choice:
		k := int(d.Buffers[0][r])
		w += modelWeight(t.Fields[k], d.Children[k], modelInt(d.Buffers[1], r))
	case api.Dict:
		return modelWeight(t.Fields[0], d.Dict[0], modelIndex(t, d, r))
	case api.Runs:
		return modelWeight(t.Fields[0], d.Children[1], modelRun(d, r))
	}
	return w
}

// growing is a tight form that rows are laid behind, one by one, however many there are.
type growing struct {
	field         api.Field
	rows, weight  int
	on, flags     []bool // not null; of Bool: the bits
	bytes, codes  []byte
	offsets, ends []int
	parts         []*growing
	last          int // of Runs: the run of the last row
}

func newGrowing(f api.Field) *growing {
	g := &growing{field: f}
	if f.Type.Kind == api.Dict {
		return g
	}
	for _, c := range f.Type.Fields {
		g.parts = append(g.parts, newGrowing(c))
	}
	return g
}

// take lays row i of an array.
func (g *growing) take(d api.Data, i int) {
	t, r := g.field.Type, d.Offset+i
	off := modelOff(g.field, d, r)
	g.weight += modelWeight(g.field, d, i)
	g.on = append(g.on, !off)
	switch t.Kind {
	case api.Null:
	case api.Bool:
		g.flags = append(g.flags, !off && d.Buffers[1][r/8]>>(r%8)&1 == 1)
	case api.Text, api.Bytes:
		if !off {
			g.bytes = append(g.bytes, d.Buffers[2][modelInt(d.Buffers[1], r):modelInt(d.Buffers[1], r+1)]...)
		}
		g.offsets = append(g.offsets, len(g.bytes))
	case api.List, api.Span, api.Struct, api.Choice, api.Runs:
		g.within(d, r, off)
	default:
		row := make([]byte, modelWidth(t))
		if !off {
			copy(row, d.Buffers[1][r*len(row):])
		}
		g.bytes = append(g.bytes, row...)
	}
	g.rows++
}

// within lays what row r has in the parts.
func (g *growing) within(d api.Data, r int, off bool) {
	switch t := g.field.Type; t.Kind {
	case api.List:
		for j := modelInt(d.Buffers[1], r); !off && j < modelInt(d.Buffers[1], r+1); j++ {
			g.parts[0].take(d.Children[0], j)
		}
		g.offsets = append(g.offsets, g.parts[0].rows)
	case api.Span:
		for j := range t.Width {
			g.parts[0].take(d.Children[0], r*t.Width+j)
		}
	case api.Struct:
		for k, p := range g.parts {
			p.take(d.Children[k], r)
		}
	case api.Choice:
		k := d.Buffers[0][r]
		g.codes = append(g.codes, k)
		g.offsets = append(g.offsets, g.parts[k].rows)
		g.parts[k].take(d.Children[k], modelInt(d.Buffers[1], r))
	case api.Runs:
		k := modelRun(d, r)
		if g.rows == 0 || g.last != k {
			g.parts[0].take(d.Children[1], k)
			g.ends = append(g.ends, 0)
		}
		g.ends[len(g.ends)-1] = g.rows + 1
		g.last = k
	}
}

// form tells the tight form.
func (g *growing) form() api.Data {
	d := api.Data{Length: g.rows}
	k := g.field.Type.Kind
	for _, on := range g.on {
		if !on {
			d.Nulls++
		}
	}
	if modelMasked(k) {
		d.Buffers = [][]byte{nil}
		if d.Nulls > 0 {
			d.Buffers[0] = modelBits(g.on)
		}
	}
	switch k {
	case api.Bool:
		d.Buffers = append(d.Buffers, modelBits(g.flags))
	case api.Text, api.Bytes:
		d.Buffers = append(d.Buffers, modelInts(append([]int{0}, g.offsets...)...), g.bytes)
	case api.List:
		d.Buffers = append(d.Buffers, modelInts(append([]int{0}, g.offsets...)...))
	case api.Choice:
		d.Buffers = [][]byte{g.codes, modelInts(g.offsets...)}
	case api.Runs:
		d.Children = []api.Data{{Length: len(g.ends), Buffers: [][]byte{nil, modelInts(g.ends...)}}}
	case api.Null, api.Span, api.Struct:
	default:
		d.Buffers = append(d.Buffers, g.bytes)
	}
	for _, p := range g.parts {
		d.Children = append(d.Children, p.form())
	}
	return d
}

// refused tells what keeps it from being laid, in the order in which it is met.
func (g *growing) refused() api.Errno {
	if g.rows > 4096 {
		return api.ErrRows
	}
	for _, b := range g.form().Buffers {
		if len(b) > 65536 {
			return api.ErrBytes
		}
	}
	for _, p := range g.parts {
		if e := p.refused(); e != api.OK {
			return e
		}
	}
	if g.weight > 4194304 {
		return api.ErrRows
	}
	return api.OK
}

// modelTight tells the tight form of all rows, or what keeps it from being laid.
func modelTight(f api.Field, d api.Data) (api.Data, api.Errno) {
	g := newGrowing(f)
	for i := range d.Length {
		g.take(d, i)
	}
	if e := g.refused(); e != api.OK {
		return api.Data{}, e
	}
	return g.form(), api.OK
}

// modelLaid lays tight forms, one behind the other.
func modelLaid(h api.Head, forms []api.Data) (api.Head, []byte, api.Errno) {
	var body []byte
	for k := range forms {
		each(&forms[k], func(d *api.Data) {
			h.Nodes = append(h.Nodes, api.Node{Length: d.Length, Nulls: d.Nulls})
			for _, b := range d.Buffers {
				p, _ := press.Pack(h.Press, b)
				h.Slots = append(h.Slots, api.Slot{At: len(body), Len: len(p), Raw: len(b)})
				body = append(body, p...)
				for len(body)%8 != 0 {
					body = append(body, 0)
				}
			}
		})
	}
	if len(body) > 4194304 {
		return api.Head{}, nil, api.ErrBytes
	}
	return h, body, api.OK
}

// modelCheck is Check by the chapter's words.
func modelCheck(s api.Schema, b api.Batch) api.Fault {
	if kind.Check(s).Err != api.OK {
		return api.Fault{Err: api.ErrType}
	}
	if b.Rows < 0 || b.Rows > 4096 || len(b.Columns) != len(s.Fields) {
		return api.Fault{Err: api.ErrColumns}
	}
	if k := slices.IndexFunc(b.Columns, func(d api.Data) bool { return d.Length != b.Rows }); k >= 0 {
		return api.Fault{Err: api.ErrColumns, At: k}
	}
	for k, f := range s.Fields {
		if x := array.Check(f, b.Columns[k]); x.Err != api.OK {
			return api.Fault{Err: x.Err, At: x.At, Path: append([]int{k}, x.Path...)}
		}
	}
	return api.Fault{}
}

// modelSplit is Split by the chapter's words.
func modelSplit(s api.Schema, b api.Batch, how int) (api.Head, []byte, api.Errno) {
	if x := modelCheck(s, b); x.Err != api.OK {
		return api.Head{}, nil, x.Err
	}
	if how != 0 && how != 1 && how != 2 {
		return api.Head{}, nil, api.ErrArg
	}
	var forms []api.Data
	for k, f := range s.Fields {
		d, e := modelTight(f, b.Columns[k])
		if e != api.OK {
			return api.Head{}, nil, e
		}
		forms = append(forms, d)
	}
	return modelLaid(api.Head{Kind: api.HeadBatch, Rows: b.Rows, Press: how}, forms)
}

// modelSplitDict is SplitDict by the chapter's words.
func modelSplitDict(f api.Field, d api.Data, delta bool, how int) (api.Head, []byte, api.Errno) {
	if kind.CheckField(f).Err != api.OK || f.Type.Kind != api.Dict {
		return api.Head{}, nil, api.ErrType
	}
	if x := array.Check(f.Type.Fields[0], d); x.Err != api.OK {
		return api.Head{}, nil, x.Err
	}
	if how != 0 && how != 1 && how != 2 {
		return api.Head{}, nil, api.ErrArg
	}
	form, e := modelTight(f.Type.Fields[0], d)
	if e != api.OK {
		return api.Head{}, nil, e
	}
	return modelLaid(api.Head{Kind: api.HeadDict, ID: f.Type.ID, Delta: delta, Rows: d.Length, Press: how}, []api.Data{form})
}

// place is an array of the laying order: its column, its field, the way to it, its first slot and how many it has.
type place struct {
	column, slot, slots int
	field               api.Field
	way                 []int
}

// modelOrder tells the laying order of columns.
func modelOrder(fields []api.Field) []place {
	var l []place
	slot := 0
	var visit func(column int, f api.Field, way []int)
	visit = func(column int, f api.Field, way []int) {
		n, ok := modelBuffers[f.Type.Kind]
		if !ok {
			n = 2
		}
		l = append(l, place{column, slot, n, f, way})
		slot += n
		within := f.Type.Fields
		switch f.Type.Kind {
		case api.Dict:
			within = nil
		case api.Runs:
			within = []api.Field{modelEnds, f.Type.Fields[0]}
		}
		for k, c := range within {
			visit(column, c, append(slices.Clone(way), k))
		}
	}
	for k, f := range fields {
		visit(k, f, nil)
	}
	return l
}

// modelWrongSlots is rule 4 of P11.4.
func modelWrongSlots(h api.Head, body []byte, slots int) (int, bool) {
	if len(h.Slots) != slots {
		return 0, true
	}
	at := 0
	for i, s := range h.Slots {
		if s.At != at || s.At+s.Len > len(body) || s.Raw > 65536 || h.Press == 0 && s.Raw != s.Len {
			return i, true
		}
		for at += s.Len; at%8 != 0; at++ {
			if at >= len(body) || body[at] != 0 {
				return i, true
			}
		}
	}
	return slots, len(body) > at
}

// modelSome is Some by the chapter's words.
func modelSome(s api.Schema, h api.Head, body []byte, dicts []api.Told, columns []int) (api.Batch, api.Fault) {
	if kind.Check(s).Err != api.OK {
		return api.Batch{}, api.Fault{Err: api.ErrType}
	}
	if _, e := meta.Put(h); e != api.OK || h.Kind != api.HeadBatch {
		return api.Batch{}, api.Fault{Err: api.ErrHead}
	}
	if len(columns) > 32 {
		return api.Batch{}, api.Fault{Err: api.ErrRange, At: 32}
	}
	for i, k := range columns {
		if k < 0 || k >= len(s.Fields) {
			return api.Batch{}, api.Fault{Err: api.ErrRange, At: i}
		}
	}
	l, x := modelJoined(s.Fields, h, body, dicts, columns)
	if x.Err != api.OK {
		return api.Batch{}, x
	}
	return api.Batch{Rows: h.Rows, Columns: l}, x
}

// modelJoined is rules 3 to 6 of P11.4.
func modelJoined(fields []api.Field, h api.Head, body []byte, dicts []api.Told, columns []int) ([]api.Data, api.Fault) {
	order := modelOrder(fields)
	if len(h.Nodes) != len(order) {
		return nil, api.Fault{Err: api.ErrNodes}
	}
	slots := 0
	for i, p := range order {
		slots += p.slots
		if len(p.way) == 0 && h.Nodes[i].Length != h.Rows {
			return nil, api.Fault{Err: api.ErrNodes, At: p.column}
		}
	}
	if at, wrong := modelWrongSlots(h, body, slots); wrong {
		return nil, api.Fault{Err: api.ErrSlots, At: at}
	}
	var l []api.Data
	for _, k := range columns {
		d, x := modelColumn(order, k, h, body, dicts)
		if x.Err != api.OK {
			return nil, x
		}
		l = append(l, d)
	}
	for i, k := range columns {
		if x := array.Check(fields[k], l[i]); x.Err != api.OK {
			return nil, api.Fault{Err: x.Err, At: x.At, Path: append([]int{k}, x.Path...)}
		}
	}
	return l, api.Fault{}
}

// modelColumn is rule 5 of P11.4.
func modelColumn(order []place, column int, h api.Head, body []byte, dicts []api.Told) (api.Data, api.Fault) {
	var top api.Data
	for i, p := range order {
		if p.column != column {
			continue
		}
		d := api.Data{Length: h.Nodes[i].Length, Nulls: h.Nodes[i].Nulls}
		if t := p.field.Type; t.Kind == api.Dict {
			for _, told := range dicts {
				if told.ID == t.ID && d.Dict == nil {
					d.Dict = []api.Data{told.Values}
				}
			}
			if d.Dict == nil {
				return top, api.Fault{Err: api.ErrUnknown, At: t.ID, Path: append([]int{column}, p.way...)}
			}
		}
		for k := p.slot; k < p.slot+p.slots; k++ {
			s := h.Slots[k]
			b, e := press.Unpack(h.Press, body[s.At:s.At+s.Len], s.Raw)
			if e != api.OK {
				return top, api.Fault{Err: api.ErrSlots, At: k}
			}
			d.Buffers = append(d.Buffers, b)
		}
		if len(p.way) == 0 {
			top = d
			continue
		}
		into := &top
		for _, k := range p.way[:len(p.way)-1] {
			into = &into.Children[k]
		}
		into.Children = append(into.Children, d)
	}
	return top, api.Fault{}
}

// modelJoinDict is JoinDict by the chapter's words.
func modelJoinDict(f api.Field, h api.Head, body []byte) (api.Data, api.Fault) {
	if kind.CheckField(f).Err != api.OK || f.Type.Kind != api.Dict {
		return api.Data{}, api.Fault{Err: api.ErrType}
	}
	if _, e := meta.Put(h); e != api.OK || h.Kind != api.HeadDict || h.ID != f.Type.ID {
		return api.Data{}, api.Fault{Err: api.ErrHead}
	}
	l, x := modelJoined(f.Type.Fields, h, body, nil, []int{0})
	if x.Err != api.OK {
		if len(x.Path) > 0 {
			x.Path = x.Path[1:]
		}
		return api.Data{}, x
	}
	return l[0], x
}

// modelDicts tells the dictionaries of columns.
func modelDicts(fields []api.Field, columns []api.Data) []api.Told {
	var l []api.Told
	var visit func(f api.Field, d api.Data)
	visit = func(f api.Field, d api.Data) {
		switch f.Type.Kind {
		case api.Dict:
			l = append(l, api.Told{ID: f.Type.ID, Values: d.Dict[0]})
		case api.Runs:
			visit(f.Type.Fields[0], d.Children[1])
		default:
			for k, c := range f.Type.Fields {
				visit(c, d.Children[k])
			}
		}
	}
	for k, f := range fields {
		visit(f, columns[k])
	}
	return l
}
