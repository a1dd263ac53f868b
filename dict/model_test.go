package dict

import (
	"math/rand"
	"sort"
	"strconv"
	"strings"
	"testing"

	"colonnade/api"
	"colonnade/array"
	"colonnade/build"
	"colonnade/kind"
	"colonnade/value"
)

// schema reads a schema.
func schema(t testing.TB, text string) api.Schema {
	t.Helper()
	s, e, at := kind.Parse(text)
	if e != api.OK {
		t.Fatalf("%s: %d at %d", text, e, at)
	}
	return s
}

// opened is the book of a schema.
func opened(t testing.TB, text string) *Book {
	t.Helper()
	b, e := Open(schema(t, text))
	if e != api.OK || b == nil {
		t.Fatalf("Open(%s): %d", text, e)
	}
	return b
}

// fieldOf is the field of a number.
func fieldOf(t testing.TB, b *Book, id int) api.Field {
	t.Helper()
	f, e := b.Field(id)
	if e != api.OK {
		t.Fatalf("Field(%d): %d", id, e)
	}
	return f
}

// formed is the build form of values.
func formed(t testing.TB, f api.Field, l []api.Value) api.Data {
	t.Helper()
	d, e, at := build.Of(f, l)
	if e != api.OK {
		t.Fatalf("Of: %d at %d", e, at)
	}
	return d
}

func num(n int64) api.Value { return api.Value{Num: n} }

func list(l ...api.Value) api.Value { return api.Value{List: l} }

func chosen(n int64, v api.Value) api.Value { return api.Value{Num: n, List: []api.Value{v}} }

// texts is values of Text.
func texts(l ...string) []api.Value {
	var all []api.Value
	for _, s := range l {
		all = append(all, api.Value{Text: s})
	}
	return all
}

// long is a text of so many bytes, that begins with another one.
func long(s string, n int) string { return s + strings.Repeat("x", n-len(s)) }

// from is the numbers from one up to ahead of another.
func from(a, b int) []api.Value {
	var l []api.Value
	for i := a; i < b; i++ {
		l = append(l, num(int64(i)))
	}
	return l
}

// upTo is the whole numbers from 0 up to ahead of n, as places.
func upTo(n int) []int {
	var l []int
	for i := range n {
		l = append(l, i)
	}
	return l
}

// join is lists of values, one behind the other.
func join(l ...[]api.Value) []api.Value {
	var all []api.Value
	for _, x := range l {
		all = append(all, x...)
	}
	return all
}

// sameData tells whether two arrays lie alike.
func sameData(a, b api.Data) bool {
	if a.Length != b.Length || a.Offset != b.Offset || a.Nulls != b.Nulls || len(a.Buffers) != len(b.Buffers) || len(a.Children) != len(b.Children) || len(a.Dict) != len(b.Dict) {
		return false
	}
	for k := range a.Buffers {
		if string(a.Buffers[k]) != string(b.Buffers[k]) {
			return false
		}
	}
	for k := range a.Children {
		if !sameData(a.Children[k], b.Children[k]) {
			return false
		}
	}
	for k := range a.Dict {
		if !sameData(a.Dict[k], b.Dict[k]) {
			return false
		}
	}
	return true
}

// isZero tells whether an array is the zero one.
func isZero(d api.Data) bool {
	return sameData(d, api.Data{}) && d.Buffers == nil && d.Children == nil && d.Dict == nil
}

// sameInts tells whether two lists of numbers are the same.
func sameInts(a, b []int) bool {
	if len(a) != len(b) {
		return false
	}
	for i := range a {
		if a[i] != b[i] {
			return false
		}
	}
	return true
}

// sameValues tells whether two lists of values are the same.
func sameValues(a, b []api.Value) bool { return same(list(a...), list(b...)) }

// copyOf is the same values in memory of their own.
func copyOf(l []api.Value) []api.Value {
	x := append([]api.Value(nil), l...)
	for i := range x {
		x[i].List = copyOf(x[i].List)
	}
	return x
}

// same tells whether two values are the same.
func same(a, b api.Value) bool {
	if a.Null != b.Null || a.Num != b.Num || a.Text != b.Text || len(a.List) != len(b.List) {
		return false
	}
	for i := range a.List {
		if !same(a.List[i], b.List[i]) {
			return false
		}
	}
	return true
}

// model is a book by the chapter's words: each dictionary a list of values.
type model struct {
	fields map[int]api.Field // of each number the Dict field
	known  map[int][]api.Value
}

func newModel(s api.Schema) *model {
	m := &model{map[int]api.Field{}, map[int][]api.Value{}}
	m.find(s.Fields)
	return m
}

// find goes through fields for those of Dict.
func (m *model) find(l []api.Field) {
	for _, f := range l {
		if f.Type.Kind == api.Dict {
			m.fields[f.Type.ID] = f
		}
		m.find(f.Type.Fields)
	}
}

// ids tells the numbers, rising.
func (m *model) ids() []int {
	var l []int
	for id := range m.fields {
		l = append(l, id)
	}
	sort.Ints(l)
	return l
}

// copy is another one that knows the same.
func (m *model) copy() *model {
	x := &model{m.fields, map[int][]api.Value{}}
	for id, l := range m.known {
		x.known[id] = append([]api.Value{}, l...)
	}
	return x
}

// put makes an array a dictionary, or, if it grows, lays it behind one.
func (m *model) put(id int, d api.Data, grow bool) api.Errno {
	f, ok := m.fields[id]
	if !ok {
		return api.ErrID
	}
	l, isKnown := m.known[id]
	if grow && !isKnown {
		return api.ErrNoDict
	}
	if x := array.Check(f.Type.Fields[0], d); x.Err != api.OK {
		return x.Err
	}
	if !grow {
		l = nil
	}
	a, _ := array.Open(f.Type.Fields[0], d)
	l = join(l, a.Values())
	if len(l) > 4096 {
		return api.ErrRows
	}
	if _, e, _ := build.Of(f.Type.Fields[0], l); e != api.OK {
		return e
	}
	m.known[id] = l
	return api.OK
}

// key is a text that two values have in common just if they are the same.
func key(v api.Value) string { return string(appendKey(nil, v)) }

func appendKey(b []byte, v api.Value) []byte {
	b = strconv.AppendBool(b, v.Null)
	b = strconv.AppendInt(append(b, ' '), v.Num, 10)
	b = strconv.AppendInt(append(b, ' '), int64(len(v.Text)), 10)
	b = append(append(append(b, ' '), v.Text...), '[')
	for _, x := range v.List {
		b = appendKey(b, x)
	}
	return append(b, ']')
}

// firsts tells of each value's key the least number of one that has it.
func firsts(l []api.Value) map[string]int {
	m := map[string]int{}
	for i := range l {
		m[key(l[len(l)-1-i])] = len(l) - 1 - i
	}
	return m
}

// placesIn tells the place of each value.
func placesIn(l, values []api.Value) []int {
	var p []int
	places := firsts(l)
	for _, v := range values {
		p = append(p, places[key(v)])
	}
	return p
}

// lacking tells the unlike values of a list that another one has not, in the order in which they come first.
func lacking(known, l []api.Value) []api.Value {
	var out []api.Value
	there, first := firsts(known), firsts(l)
	for i, v := range l {
		if _, ok := there[key(v)]; !ok && first[key(v)] == i {
			out = append(out, v)
		}
	}
	return out
}

// may tells whether values are no more than the indices have numbers, and can be a dictionary.
func (m *model) may(id int, l []api.Value) bool {
	f := m.fields[id]
	most, narrow := map[int]int{api.Int8: 128, api.Uint8: 256}[f.Type.Index]
	if narrow && len(l) > most || len(l) > 4096 {
		return false
	}
	_, e, _ := build.Of(f.Type.Fields[0], l)
	return e == api.OK
}

// tell tells the values of the array that Tell tells, and the rest that it answers.
func (m *model) tell(id int, l []api.Value, delta bool) ([]api.Value, int, []int, api.Errno) {
	f, ok := m.fields[id]
	if !ok {
		return nil, 0, nil, api.ErrID
	}
	if len(l) > 4096 {
		return nil, 0, nil, api.ErrRows
	}
	for _, v := range l {
		if value.Fits(f.Type.Fields[0], v) != api.OK {
			return nil, 0, nil, api.ErrValue
		}
	}
	known, isKnown := m.known[id]
	fresh, unlike := lacking(known, l), lacking(nil, l)
	whole := join(known, fresh)
	switch {
	case isKnown && len(fresh) == 0:
		return nil, 0, placesIn(known, l), api.OK
	case m.may(id, whole) && isKnown && delta:
		m.known[id] = whole
		return fresh, 1, placesIn(whole, l), api.OK
	case m.may(id, whole):
		m.known[id] = whole
		return whole, 2, placesIn(whole, l), api.OK
	case m.may(id, unlike):
		m.known[id] = unlike
		return unlike, 2, placesIn(unlike, l), api.OK
	}
	return nil, 0, nil, api.ErrIndices
}

// hold holds a book against the model: all that it tells without being changed.
func (m *model) hold(t *testing.T, b *Book) {
	t.Helper()
	if got := b.IDs(); !sameInts(got, m.ids()) {
		t.Fatalf("IDs: %v, not %v", got, m.ids())
	}
	told := b.Told()
	for id := -1; id <= 33; id++ {
		f, ok := m.fields[id]
		if got, e := b.Field(id); !ok && (e != api.ErrID || got.Name != "" || got.Type.Kind != 0) || ok && (e != api.OK || got.Name != f.Type.Fields[0].Name || !kind.AlikeFields(got, f.Type.Fields[0])) {
			t.Fatalf("Field(%d): %v, %d", id, got, e)
		}
		l, isKnown := m.known[id]
		d, e := b.Get(id)
		if !isKnown {
			want := api.Errno(api.ErrID)
			if ok {
				want = api.ErrNoDict
			}
			if e != want || !isZero(d) || b.Len(id) != -1 {
				t.Fatalf("Get(%d): %d, not %d; Len %d", id, e, want, b.Len(id))
			}
			continue
		}
		want := formed(t, f.Type.Fields[0], l)
		if e != api.OK || !sameData(d, want) || b.Len(id) != len(l) {
			t.Fatalf("Get(%d): %d rows, %d, not %d; Len %d", id, d.Length, e, len(l), b.Len(id))
		}
		if len(told) == 0 || told[0].ID != id || !sameData(told[0].Values, want) {
			t.Fatalf("Told: %d is not the next one", id)
		}
		told = told[1:]
	}
	if len(told) > 0 {
		t.Fatalf("Told: %d is known to nobody else", told[0].ID)
	}
}

// asks holds a Tell against the model, and tells how it told.
func (m *model) asks(t *testing.T, b *Book, id int, l []api.Value, delta bool) (int, api.Errno) {
	t.Helper()
	d, how, places, e := b.Tell(id, l, delta)
	values, wantHow, wantPlaces, want := m.tell(id, l, delta)
	if e != want || how != wantHow || !sameInts(places, wantPlaces) {
		t.Fatalf("Tell(%d, %d values, %v): %d, %v, %d, not %d, %v, %d", id, len(l), delta, how, places, e, wantHow, wantPlaces, want)
	}
	if e != api.OK {
		if !isZero(d) || places != nil {
			t.Fatalf("Tell(%d): %d, and %v, %v", id, e, d, places)
		}
		return how, e
	}
	if want := formed(t, m.fields[id].Type.Fields[0], values); !sameData(d, want) {
		t.Fatalf("Tell(%d) tells %d rows, not %d", id, d.Length, len(values))
	}
	return how, e
}

// chance makes schemas, values and arrays, always the same ones.
type chance struct {
	*rand.Rand
	ids []int // numbers not given out yet
}

func newChance(seed int64) *chance { return &chance{Rand: rand.New(rand.NewSource(seed))} }

// schema makes a schema with dictionaries at any depth.
func (c *chance) schema() api.Schema {
	c.ids = c.Perm(32)
	var s api.Schema
	for i := range 1 + c.Intn(4) {
		s.Fields = append(s.Fields, c.field("f"+strconv.Itoa(i), 3))
	}
	return s
}

// field makes a field that holds dictionaries, if there are levels enough.
func (c *chance) field(name string, depth int) api.Field {
	f := api.Field{Name: name, Nullable: c.Intn(2) == 0}
	if depth == 0 {
		return c.dict(f)
	}
	switch c.Intn(7) {
	case 0:
		f.Type = api.Type{Kind: api.Int8}
	case 1:
		f.Type = api.Type{Kind: api.List, Fields: []api.Field{c.field("i", depth-1)}}
	case 2:
		f.Type = api.Type{Kind: api.Struct, Fields: []api.Field{c.field("a", depth-1), c.field("b", depth-1)}}
	case 3:
		f.Type = api.Type{Kind: api.Choice, Fields: []api.Field{c.field("a", depth-1), c.field("b", depth-1)}}
		f.Nullable = false
	case 4:
		f.Type = api.Type{Kind: api.Runs, Fields: []api.Field{c.field("r", depth-1)}}
		f.Nullable = f.Type.Fields[0].Nullable
	default:
		return c.dict(f)
	}
	return f
}

// dict makes a field one of Dict.
func (c *chance) dict(f api.Field) api.Field {
	child := c.child("v", 2)
	child.Nullable = false
	f.Type = api.Type{Kind: api.Dict, ID: c.ids[0], Index: api.Int8 + c.Intn(8)*c.Intn(2), Fields: []api.Field{child}}
	c.ids = c.ids[1:]
	return f
}

// child makes a field without dictionaries and runs.
func (c *chance) child(name string, depth int) api.Field {
	f := api.Field{Name: name, Nullable: c.Intn(2) == 0}
	k := api.Bool + c.Intn(13)
	if depth > 0 {
		k = api.Bool + c.Intn(17)
	}
	f.Type.Kind = k
	n := 0
	switch k {
	case api.Fixed:
		f.Type.Width = 1 + c.Intn(3)
	case api.List:
		n = 1
	case api.Span:
		f.Type.Width, n = 1+c.Intn(3), 1
	case api.Struct:
		n = c.Intn(3)
	case api.Choice:
		f.Nullable, n = false, 1+c.Intn(3)
	}
	for i := range n {
		f.Type.Fields = append(f.Type.Fields, c.child(string(rune('a'+i)), depth-1))
	}
	return f
}

// value makes a value of a child; size says how long its texts and lists may be.
func (c *chance) value(f api.Field, size int) api.Value {
	if f.Nullable && c.Intn(4) == 0 {
		return api.Value{Null: true}
	}
	switch t := f.Type; t.Kind {
	case api.Bool:
		return num(int64(c.Intn(2)))
	case api.Text, api.Bytes:
		n := c.Intn(size + 1)
		return api.Value{Text: long(strconv.Itoa(c.Intn(1000)), max(n, 3))[:n]}
	case api.Fixed:
		return api.Value{Text: strings.Repeat("a", t.Width-1) + string([]byte{byte(c.Intn(256))})}
	case api.List:
		var v api.Value
		for range c.Intn(min(size, 4000) + 1) {
			v.List = append(v.List, c.value(t.Fields[0], size/10+1))
		}
		return v
	case api.Span:
		var v api.Value
		for range t.Width {
			v.List = append(v.List, c.value(t.Fields[0], size/2))
		}
		return v
	case api.Struct:
		var v api.Value
		for _, x := range t.Fields {
			v.List = append(v.List, c.value(x, size/2))
		}
		return v
	case api.Choice:
		k := c.Intn(len(t.Fields))
		return chosen(int64(k), c.value(t.Fields[k], size))
	}
	most := 700
	if f.Type.Kind == api.Int8 || f.Type.Kind == api.Uint8 {
		most = 128
	}
	if c.Intn(4) == 0 {
		most = 6
	}
	return num(int64(c.Intn(most)))
}

// values makes up to so many values.
func (c *chance) values(f api.Field, n, size int) []api.Value {
	var l []api.Value
	for range c.Intn(n + 1) {
		l = append(l, c.value(f, size))
	}
	return l
}

// lying makes an array of values that lies otherwise than their build form: a piece of a greater one. (Nothing, if that can't be built.)
func (c *chance) lying(f api.Field, l []api.Value) (api.Data, bool) {
	ahead, behind := c.values(f, 9, 3), c.values(f, 4, 3)
	d, e, _ := build.Of(f, join(ahead, l, behind))
	if e != api.OK {
		return api.Data{}, false
	}
	a, x := array.Open(f, d)
	if x.Err != api.OK {
		return api.Data{}, false
	}
	a, e = a.Cut(len(ahead), len(l))
	if e != api.OK {
		return api.Data{}, false
	}
	return a.Data(), true
}

// hurt does one thing to an array that may make it none.
func (c *chance) hurt(d api.Data) api.Data {
	switch c.Intn(4) {
	case 0:
		d.Length += c.Intn(3) - 1
	case 1:
		d.Offset = []int{-1, 1, 4096, 1<<63 - 1}[c.Intn(4)]
	case 2:
		d.Nulls++
	default:
		d.Buffers = append([][]byte{{1}}, d.Buffers...)
	}
	return d
}
