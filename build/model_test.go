package build

import (
	"encoding/binary"
	"math/rand"
	"strconv"
	"strings"
	"testing"

	"colonnade/api"
	"colonnade/kind"
	"colonnade/value"
)

// field reads a field's type, as `list(i int8)?`.
func field(t testing.TB, text string) api.Field {
	t.Helper()
	f, e, at := kind.ParseField("f " + text)
	if e != api.OK {
		t.Fatalf("%s: %d at %d", text, e, at)
	}
	return f
}

// schema reads a schema.
func schema(t testing.TB, text string) api.Schema {
	t.Helper()
	s, e, at := kind.Parse(text)
	if e != api.OK {
		t.Fatalf("%s: %d at %d", text, e, at)
	}
	return s
}

// values reads values of a field.
func values(t testing.TB, f api.Field, texts ...string) []api.Value {
	t.Helper()
	var l []api.Value
	for _, s := range texts {
		v, e, at := value.Parse(f, s)
		if e != api.OK {
			t.Fatalf("%s: %d at %d", s, e, at)
		}
		l = append(l, v)
	}
	return l
}

var null = api.Value{Null: true}

func num(n int64) api.Value { return api.Value{Num: n} }

func text(s string) api.Value { return api.Value{Text: s} }

func list(l ...api.Value) api.Value { return api.Value{List: l} }

func chosen(n int64, v api.Value) api.Value { return api.Value{Num: n, List: []api.Value{v}} }

// long is a text of so many bytes.
func long(n int) api.Value { return text(strings.Repeat("x", n)) }

// times is a value again and again.
func times(n int, v api.Value) []api.Value {
	l := make([]api.Value, n)
	for i := range l {
		l[i] = v
	}
	return l
}

// upTo is the numbers 0 to n - 1.
func upTo(n int) []api.Value {
	l := make([]api.Value, n)
	for i := range l {
		l[i].Num = int64(i)
	}
	return l
}

// join is lists of values, one behind the other.
func join(l ...[]api.Value) []api.Value {
	var all []api.Value
	for _, x := range l {
		all = append(all, x...)
	}
	return all
}

// modelSame tells whether two arrays lie alike.
func modelSame(a, b api.Data) bool {
	if a.Length != b.Length || a.Offset != b.Offset || a.Nulls != b.Nulls || len(a.Buffers) != len(b.Buffers) || len(a.Children) != len(b.Children) || len(a.Dict) != len(b.Dict) {
		return false
	}
	for k := range a.Buffers {
		if string(a.Buffers[k]) != string(b.Buffers[k]) {
			return false
		}
	}
	for k := range a.Children {
		if !modelSame(a.Children[k], b.Children[k]) {
			return false
		}
	}
	for k := range a.Dict {
		if !modelSame(a.Dict[k], b.Dict[k]) {
			return false
		}
	}
	return true
}

// isZero tells whether an array is the zero one.
func isZero(d api.Data) bool {
	return modelSame(d, api.Data{}) && d.Buffers == nil && d.Children == nil && d.Dict == nil
}

// modelKey is a text that two values have in common just if they are the same.
func modelKey(v api.Value) string { return string(appendKey(nil, v)) }

func appendKey(b []byte, v api.Value) []byte {
	b = strconv.AppendBool(b, v.Null)
	b = append(strconv.AppendInt(b, v.Num, 10), ' ')
	b = append(strconv.AppendInt(b, int64(len(v.Text)), 10), ' ')
	b = append(append(b, v.Text...), '[')
	for _, x := range v.List {
		b = appendKey(b, x)
	}
	return append(b, ']')
}

// modelWeight is a value's weight.
func modelWeight(v api.Value) int { return 16 + len(v.Text) + modelWeights(v.List) }

func modelWeights(l []api.Value) int {
	w := 0
	for _, v := range l {
		w += modelWeight(v)
	}
	return w
}

// modelZero is the zero value of a field, however heavy.
func modelZero(f api.Field) api.Value {
	v := api.Value{Null: f.Nullable}
	if f.Nullable {
		return v
	}
	switch t := f.Type; t.Kind {
	case api.Fixed:
		v.Text = strings.Repeat("\x00", t.Width)
	case api.Span:
		v.List = times(t.Width, modelZero(t.Fields[0]))
	case api.Struct:
		for _, c := range t.Fields {
			v.List = append(v.List, modelZero(c))
		}
	case api.Choice:
		v.List = []api.Value{modelZero(t.Fields[0])}
	case api.Dict, api.Runs:
		return modelZero(t.Fields[0])
	}
	return v
}

// modelWithin tells the values that stand in the List of a value that may be null.
func modelWithin(t api.Type, v api.Value) []api.Value {
	switch {
	case v.Null && t.Kind == api.Span:
		return times(t.Width, modelZero(t.Fields[0]))
	case v.Null && t.Kind == api.Struct:
		var l []api.Value
		for _, c := range t.Fields {
			l = append(l, modelZero(c))
		}
		return l
	}
	return v.List
}

// What the document's tables say of kinds.
var (
	modelWidths  = map[int]int{api.Int8: 1, api.Int16: 2, api.Int32: 4, api.Int64: 8, api.Uint8: 1, api.Uint16: 2, api.Uint32: 4, api.Uint64: 8, api.Float64: 8}
	modelNumbers = map[int]int{api.Int8: 128, api.Uint8: 256}
)

// modelMasked tells whether arrays of a kind have a validity.
func modelMasked(k int) bool { return k != api.Null && k != api.Choice && k != api.Runs }

// modelBits lays bits.
func modelBits(l []api.Value, on func(api.Value) bool) []byte {
	b := make([]byte, (len(l)+7)/8)
	for i, v := range l {
		if on(v) {
			b[i/8] |= 1 << (i % 8)
		}
	}
	return b
}

// modelInts lays numbers of a width.
func modelInts(width int, l ...int) []byte {
	var b []byte
	for _, x := range l {
		b = append(b, binary.LittleEndian.AppendUint64(nil, uint64(x))[:width]...)
	}
	return b
}

// former lays values by the document's words of the build form, all at once; fine falls where a limit of 'It can be built' is exceeded.
type former struct {
	fine bool
}

// modelForm tells the build form, and whether it can be built.
func modelForm(f api.Field, l []api.Value) (api.Data, bool) {
	m := former{true}
	d := m.form(f, l)
	return d, m.fine
}

func (m *former) must(ok bool) { m.fine = m.fine && ok }

func (m *former) form(f api.Field, l []api.Value) api.Data {
	d := api.Data{Length: len(l)}
	m.must(len(l) <= 4096 && modelWeights(l) <= 4194304)
	if f.Type.Kind != api.Runs {
		for _, v := range l {
			if v.Null {
				d.Nulls++
			}
		}
	}
	if modelMasked(f.Type.Kind) {
		d.Buffers = [][]byte{nil}
		if d.Nulls > 0 {
			d.Buffers[0] = modelBits(l, func(v api.Value) bool { return !v.Null })
		}
	}
	m.rest(f.Type, l, &d)
	for _, b := range d.Buffers {
		m.must(len(b) <= 65536)
	}
	return d
}

// rest lays what stands behind the validity.
func (m *former) rest(t api.Type, l []api.Value, d *api.Data) {
	var b []byte
	switch t.Kind {
	case api.Null:
	case api.Bool:
		d.Buffers = append(d.Buffers, modelBits(l, func(v api.Value) bool { return v.Num == 1 }))
	case api.Text, api.Bytes:
		offsets := []int{0}
		for _, v := range l {
			b = append(b, v.Text...)
			offsets = append(offsets, len(b))
		}
		d.Buffers = append(d.Buffers, modelInts(4, offsets...), b)
	case api.Fixed:
		for _, v := range l {
			b = append(b, v.Text...)
			if v.Null {
				b = append(b, make([]byte, t.Width)...)
			}
		}
		d.Buffers = append(d.Buffers, b)
	case api.List, api.Span, api.Struct, api.Choice:
		m.nested(t, l, d)
	case api.Dict:
		m.dict(t, l, d)
	case api.Runs:
		m.runs(t, l, d)
	default:
		for _, v := range l {
			b = append(b, modelInts(modelWidths[t.Kind], int(v.Num))...)
		}
		d.Buffers = append(d.Buffers, b)
	}
}

// nested lays kinds whose values have a List.
func (m *former) nested(t api.Type, l []api.Value, d *api.Data) {
	parts := make([][]api.Value, len(t.Fields))
	var codes []byte
	offsets := []int{0}
	for _, v := range l {
		within := modelWithin(t, v)
		switch t.Kind {
		case api.Struct:
			for k, x := range within {
				parts[k] = append(parts[k], x)
			}
		case api.Choice:
			codes = append(codes, byte(v.Num))
			offsets = append(offsets, len(parts[v.Num]))
			parts[v.Num] = append(parts[v.Num], v.List[0])
		default:
			parts[0] = append(parts[0], within...)
			offsets = append(offsets, len(parts[0]))
		}
	}
	switch t.Kind {
	case api.List:
		d.Buffers = append(d.Buffers, modelInts(4, offsets...))
	case api.Choice:
		d.Buffers = [][]byte{codes, modelInts(4, offsets[1:]...)}
	}
	for k, f := range t.Fields {
		d.Children = append(d.Children, m.form(f, parts[k]))
	}
}

func (m *former) dict(t api.Type, l []api.Value, d *api.Data) {
	numbers := map[string]int{}
	var unlike []api.Value
	var indices []int
	for _, v := range l {
		if v.Null {
			indices = append(indices, 0)
			continue
		}
		key := modelKey(v)
		n, ok := numbers[key]
		if !ok {
			n = len(unlike)
			numbers[key] = n
			unlike = append(unlike, v)
		}
		indices = append(indices, n)
	}
	most, narrow := modelNumbers[t.Index]
	m.must(!narrow || len(unlike) <= most)
	d.Buffers = append(d.Buffers, modelInts(modelWidths[t.Index], indices...))
	d.Dict = []api.Data{m.form(t.Fields[0], unlike)}
}

func (m *former) runs(t api.Type, l []api.Value, d *api.Data) {
	var first []api.Value
	var ends []int
	for i, v := range l {
		if i == 0 || modelKey(v) != modelKey(l[i-1]) {
			first = append(first, v)
			ends = append(ends, 0)
		}
		ends[len(ends)-1] = i + 1
	}
	d.Children = []api.Data{{Length: len(ends), Buffers: [][]byte{nil, modelInts(4, ends...)}}, m.form(t.Fields[0], first)}
}

// tally counts what an array in the making has, by the document's steps of taking in; it lays nothing.
type tally struct {
	field               api.Field
	rows, bytes, weight int
	parts               []*tally
	known               []string // of a Dict the keys of the dictionary's values; of a Runs that of the last run
}

func newTally(f api.Field) *tally {
	s := &tally{field: f}
	for _, c := range f.Type.Fields {
		s.parts = append(s.parts, newTally(c))
	}
	return s
}

// copy is the same in memory of its own.
func (s *tally) copy() *tally {
	x := *s
	x.known = append([]string(nil), s.known...)
	x.parts = nil
	for _, p := range s.parts {
		x.parts = append(x.parts, p.copy())
	}
	return &x
}

// take tells the limit that is met when a value is taken in; behind one it is of no use any more.
func (s *tally) take(v api.Value) api.Errno {
	if s.rows == 4096 {
		return api.ErrRows
	}
	s.rows++
	t := s.field.Type
	if t.Kind == api.Text || t.Kind == api.Bytes {
		s.bytes += len(v.Text)
		if s.bytes > 65536 {
			return api.ErrBytes
		}
	}
	if e := s.within(t, v); e != api.OK {
		return e
	}
	s.weight += modelWeight(v)
	if s.weight > 4194304 {
		return api.ErrRows
	}
	return api.OK
}

// within is step 3.
func (s *tally) within(t api.Type, v api.Value) api.Errno {
	switch t.Kind {
	case api.Dict:
		return s.name(t, v)
	case api.Runs:
		key := modelKey(v)
		if len(s.known) == 1 && s.known[0] == key {
			return api.OK
		}
		s.known = []string{key}
		return s.parts[0].take(v)
	}
	for k, x := range modelWithin(t, v) {
		p := 0
		if t.Kind == api.Struct {
			p = k
		}
		if t.Kind == api.Choice {
			p = int(v.Num)
		}
		if e := s.parts[p].take(x); e != api.OK {
			return e
		}
	}
	return api.OK
}

func (s *tally) name(t api.Type, v api.Value) api.Errno {
	key := modelKey(v)
	if v.Null {
		return api.OK
	}
	for _, k := range s.known {
		if k == key {
			return api.OK
		}
	}
	if most, narrow := modelNumbers[t.Index]; narrow && len(s.known) == most {
		return api.ErrIndices
	}
	s.known = append(s.known, key)
	return s.parts[0].take(v)
}

// modelOf tells what Of answers beside the array.
func modelOf(f api.Field, l []api.Value) (api.Errno, int) {
	s := newTally(f)
	for i, v := range l {
		if value.Fits(f, v) != api.OK {
			return api.ErrValue, i
		}
		if e := s.take(v); e != api.OK {
			return e, i
		}
	}
	return api.OK, 0
}

// chance makes fields, values and arrays, always the same ones.
type chance struct {
	*rand.Rand
	ids int // dictionaries given out
}

func newChance(seed int64) *chance { return &chance{Rand: rand.New(rand.NewSource(seed))} }

// field makes a field that may be.
func (c *chance) field() api.Field {
	c.ids = 0
	return c.within("f", 3, false)
}

// within makes a field that may be, of at most so many levels below it.
func (c *chance) within(name string, depth int, inDict bool) api.Field {
	k := 1 + c.Intn(20)
	if depth == 0 {
		k = 1 + c.Intn(14)
	}
	if (k == api.Dict || k == api.Runs) && inDict || k == api.Dict && c.ids == api.MaxDicts {
		k = api.Struct
	}
	f := api.Field{Name: name, Type: api.Type{Kind: k}}
	n := 0
	switch k {
	case api.Fixed:
		f.Type.Width = 1 + c.Intn(4)
	case api.Span:
		f.Type.Width = 1 + c.Intn(3)
		n = 1
	case api.List, api.Runs:
		n = 1
	case api.Struct:
		n = c.Intn(4)
	case api.Choice:
		n = 1 + c.Intn(4)
	case api.Dict:
		f.Type.ID, f.Type.Index = c.ids, api.Int8+c.Intn(8)*c.Intn(2)
		c.ids++
		n = 1
	}
	for i := range n {
		f.Type.Fields = append(f.Type.Fields, c.within(string(rune('a'+i)), depth-1, inDict || k == api.Dict))
	}
	return c.nullable(f)
}

// nullable makes a field Nullable, or not, as it may be.
func (c *chance) nullable(f api.Field) api.Field {
	f.Nullable = c.Intn(2) == 0
	switch f.Type.Kind {
	case api.Null:
		f.Nullable = true
	case api.Choice:
		f.Nullable = false
	case api.Runs:
		f.Nullable = f.Type.Fields[0].Nullable
	case api.Dict:
		child := &f.Type.Fields[0]
		child.Nullable = false
		if child.Type.Kind == api.Null {
			child.Type.Kind = api.Bool
		}
	}
	return f
}

// value makes a value of a field, with lists and texts of up to so many (it may be too heavy to fit).
func (c *chance) value(f api.Field, size int) api.Value {
	t := f.Type
	for t.Kind == api.Runs {
		t = t.Fields[0].Type
	}
	if f.Nullable && (c.Intn(4) == 0 || t.Kind == api.Null) {
		return null
	}
	for t.Kind == api.Dict || t.Kind == api.Runs {
		t = t.Fields[0].Type
	}
	switch t.Kind {
	case api.Bool:
		return num(int64(c.Intn(2)))
	case api.Text:
		return text(c.letters(c.Intn(size + 1)))
	case api.Bytes:
		return text(string(c.noise(c.Intn(size + 1))))
	case api.Fixed:
		return text(string(c.noise(t.Width)[:t.Width]))
	case api.List:
		return list(c.values(t.Fields[0], c.Intn(min(size, 5000)+1), size/100+min(size, 2))...)
	case api.Span:
		return list(c.values(t.Fields[0], t.Width, size/2)...)
	case api.Struct:
		var v api.Value
		for _, x := range t.Fields {
			v.List = append(v.List, c.value(x, size/2))
		}
		return v
	case api.Choice:
		k := c.Intn(len(t.Fields))
		return chosen(int64(k), c.value(t.Fields[k], size))
	}
	return num(c.number(t.Kind))
}

// values makes so many values, a few of them again and again.
func (c *chance) values(f api.Field, n, size int) []api.Value {
	var l []api.Value
	for i := range n {
		if i > 0 && c.Intn(3) == 0 {
			l = append(l, l[c.Intn(i)])
			continue
		}
		l = append(l, c.value(f, size))
	}
	return l
}

// number makes a number of a kind.
func (c *chance) number(k int) int64 {
	x := int64(c.Uint64())
	if c.Intn(3) == 0 {
		x = int64(c.Intn(4) - 1)
	}
	switch k {
	case api.Int8:
		return int64(int8(x))
	case api.Int16:
		return int64(int16(x))
	case api.Int32:
		return int64(int32(x))
	case api.Uint8:
		return int64(uint8(x))
	case api.Uint16:
		return int64(uint16(x))
	case api.Uint32:
		return int64(uint32(x))
	}
	return x
}

// letters makes a text of about so many bytes.
func (c *chance) letters(n int) string {
	s := ""
	for range min(n, 3) {
		s += []string{"a", "b", "é", "\x00", "\U0001f600", "\ufffd"}[c.Intn(6)]
	}
	return s + strings.Repeat("z", max(n-12, 0))
}

// noise makes so many bytes, and at times a few more.
func (c *chance) noise(n int) []byte {
	b := make([]byte, n+c.Intn(2)*c.Intn(4))
	c.Read(b)
	return b
}
