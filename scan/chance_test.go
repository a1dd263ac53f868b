package scan

import (
	"math/rand"
	"slices"
	"strings"
	"testing"

	"colonnade/api"
	"colonnade/array"
	"colonnade/frame"
	"colonnade/kind"
)

// chance makes tables whose arrays lie anyhow, filters and files, always the same ones.
type chance struct{ *rand.Rand }

func newChance(seed int64) *chance { return &chance{rand.New(rand.NewSource(seed))} }

// in tells whether one of n cases is met.
func (c *chance) in(n int) bool { return c.Intn(n) == 0 }

// one tells one of a list.
func one[T any](c *chance, l []T) T { return l[c.Intn(len(l))] }

// types are those of columns; those of dictionaries have the ID 0.
var types = strings.Fields(`bool bool? int8 int8? int16? int32 int64 int64? uint8? uint64? float64 float64? text text? text? bytes? fixed(2)? null? list(i_int8)? list(i_text) span(2,i_int8)? struct(a_int8,b_text?)? struct()
	choice(p_int8,q_text?) dict(0,uint8,w_text)? dict(0,int8,w_int64) dict(0,int16,w_bool)? dict(0,int8,w_choice(p_int8,q_text))? runs(v_int8?)? runs(v_text) runs(v_bool?)? runs(v_dict(0,int8,w_bytes)?)? list(i_dict(0,int8,w_text)?)`)

// field makes a field of a name.
func (c *chance) field(t testing.TB, name string) api.Field {
	t.Helper()
	return fieldOf(t, name+" "+strings.ReplaceAll(one(c, types), "_", " "))
}

// renumber gives the dictionary in a field a number.
func renumber(f *api.Field, id int) {
	if f.Type.Kind == api.Dict {
		f.Type.ID = id
	}
	for k := range f.Type.Fields {
		renumber(&f.Type.Fields[k], id)
	}
}

// schema makes a schema of up to so many columns.
func (c *chance) schema(t testing.TB, n int) api.Schema {
	t.Helper()
	var s api.Schema
	for i := range c.Intn(n + 1) {
		f := c.field(t, string(rune('a'+i)))
		renumber(&f, i)
		s.Fields = append(s.Fields, f)
	}
	for range c.Intn(3) {
		s.Notes = append(s.Notes, api.Note{Key: one(c, []string{"", "k"}), Text: one(c, []string{"", "t"})})
	}
	return s
}

// value makes a value that fits a field.
func (c *chance) value(f api.Field) (v api.Value) {
	t := f.Type
	if t.Kind == api.Null || f.Nullable && t.Kind != api.Runs && c.in(5) {
		return null
	}
	n := 0
	switch t.Kind {
	case api.Text, api.Bytes:
		v.Text = one(c, []string{"", "a", "ab", "b", "é", strings.Repeat("a", 17), strings.Repeat("b", 20)})
	case api.Fixed:
		for range t.Width {
			v.Text += one(c, []string{"a", "b"})
		}
	case api.List:
		n = c.Intn(3)
	case api.Span:
		n = t.Width
	case api.Struct:
		for _, g := range t.Fields {
			v.List = append(v.List, c.value(g))
		}
	case api.Choice:
		v.Num = int64(c.Intn(len(t.Fields)))
		v.List = []api.Value{c.value(t.Fields[v.Num])}
	case api.Dict, api.Runs:
		return c.value(t.Fields[0])
	case api.Bool:
		v.Num = int64(c.Intn(2))
	case api.Float64:
		v.Num = one(c, []int64{0, -1 << 63, 0x3ff << 52, 0x7ff8 << 48, 0x4000 << 48})
	default:
		v.Num = one(c, []int64{0, 1, 2, 3, 7, 100})
		if t.Kind <= api.Int64 && c.in(2) {
			v.Num = -v.Num
		}
	}
	for range n {
		v.List = append(v.List, c.value(t.Fields[0]))
	}
	return v
}

// column makes so many values, out of few: so a block's bounds tell much of it.
func (c *chance) column(f api.Field, n int) []api.Value {
	few := []api.Value{c.value(f), c.value(f)}[:1+c.Intn(2)]
	var l []api.Value
	for range n {
		v := one(c, few)
		if c.in(12) {
			v = c.value(f)
		}
		l = append(l, v)
	}
	return l
}

// anyhow makes an array that denotes values: with other rows around them, and others within.
func (c *chance) anyhow(t testing.TB, f api.Field, l []api.Value) api.Data {
	t.Helper()
	ahead, behind := c.column(f, c.Intn(3)), c.column(f, c.Intn(3))
	d := formOf(t, f, slices.Concat(ahead, l, behind))
	d.Offset, d.Length = len(ahead), len(l)
	if k := f.Type.Kind; k != api.Choice && k != api.Runs {
		d.Nulls = 0
		for _, v := range l {
			if v.Null {
				d.Nulls++
			}
		}
	}
	for k, g := range kind.Parts(f.Type) {
		d.Children[k] = c.again(t, g, d.Children[k])
	}
	for k := range d.Dict {
		d.Dict[k] = c.again(t, f.Type.Fields[0], d.Dict[k])
	}
	return d
}

// again makes an array that denotes the same as another one, and lies otherwise.
func (c *chance) again(t testing.TB, f api.Field, d api.Data) api.Data {
	t.Helper()
	a, x := array.Open(f, d)
	if x.Err != api.OK {
		t.Fatalf("Open: %v", x)
	}
	return c.anyhow(t, f, a.Values())
}

// table makes a table of at most so many columns.
func (c *chance) table(t testing.TB, columns int) api.Table {
	t.Helper()
	out := api.Table{Schema: c.schema(t, columns)}
	for range c.Intn(7) {
		b := api.Batch{Rows: c.Intn(6)}
		for _, f := range out.Schema.Fields {
			b.Columns = append(b.Columns, c.anyhow(t, f, c.column(f, b.Rows)))
		}
		out.Batches = append(out.Batches, b)
	}
	return out
}

// option makes one that may be.
func (c *chance) option() api.Option { return api.Option{Press: c.Intn(3), Delta: c.in(2)} }

// columns makes names that may be asked for; seldom one that may not.
func (c *chance) columns(s api.Schema) []string {
	var l []string
	for _, k := range c.Perm(len(s.Fields)) {
		if c.in(2) {
			l = append(l, s.Fields[k].Name)
		}
	}
	if c.in(25) {
		l = slices.Insert(l, c.Intn(len(l)+1), one(c, []string{"a", "z", "", "A"}))
	}
	return l
}

// maker makes expressions over a schema.
type maker struct {
	*chance
	t testing.TB
	s api.Schema
}

// plain is a field's plain type.
func plain(f api.Field) api.Type {
	for f.Type.Kind == api.Dict || f.Type.Kind == api.Runs {
		f = f.Type.Fields[0]
	}
	return f.Type
}

// literal makes a literal whose plain type is that one.
func (m maker) literal(want api.Type) api.Expr {
	f := api.Field{Name: "x", Nullable: want.Kind == api.Null || want.Kind != api.Choice && m.in(3), Type: want}
	if want.Kind != api.Null && m.in(8) {
		f = api.Field{Name: "x", Nullable: m.in(2), Type: api.Type{Kind: api.Dict, Index: api.Int8, Fields: []api.Field{{Name: "w", Type: want}}}}
	}
	return lit(f, m.value(f))
}

// columnOf makes a column, if there is one whose plain type is that one; else a literal.
func (m maker) columnOf(want api.Type) api.Expr {
	var l []string
	for _, f := range m.s.Fields {
		if kind.Alike(plain(f), want) {
			l = append(l, f.Name)
		}
	}
	if len(l) == 0 {
		return m.literal(want)
	}
	return named(one(m.chance, l))
}

// anyType makes a plain type, most often that of a column.
func (m maker) anyType() api.Type {
	if n := len(m.s.Fields); n > 0 && !m.in(8) {
		return plain(m.s.Fields[m.Intn(n)])
	}
	return plain(m.field(m.t, "x"))
}

var boolean = api.Type{Kind: api.Bool}

// truth makes an expression whose plain type is Bool, of at most so many levels.
func (m maker) truth(depth int) api.Expr {
	if depth == 0 {
		return one(m.chance, []func(api.Type) api.Expr{m.columnOf, m.literal})(boolean)
	}
	t := m.anyType()
	compare := api.OpEq + m.Intn(6)
	a, b := m.truth(depth-1), m.truth(depth-1)
	switch m.Intn(16) {
	case 0:
		return op(api.OpIsNull, m.columnOf(t))
	case 1:
		return op(api.OpNot, a)
	case 2, 3:
		return op(api.OpAnd, a, b)
	case 4, 5:
		return op(api.OpOr, a, b)
	case 6:
		return op(compare, m.literal(t), m.columnOf(t))
	case 7:
		return op(compare, m.columnOf(t), m.columnOf(t))
	case 8, 9, 10:
		return m.rare(compare, a, b)
	}
	return op(compare, m.columnOf(t), m.literal(t))
}

// rare makes one of which little is known by statistics; some are refused at some rows.
func (m maker) rare(compare int, a, b api.Expr) api.Expr {
	whole := api.Type{Kind: one(m.chance, []int{api.Int64, api.Int8})}
	letters := api.Type{Kind: api.Text}
	switch m.Intn(8) {
	case 0:
		return op(api.OpIf, a, b, m.truth(0))
	case 1:
		return op(api.OpElse, a, b)
	case 2:
		return op(api.OpBegins+m.Intn(2), m.columnOf(letters), m.literal(letters))
	case 3, 4:
		return op(compare, op(api.OpAdd+m.Intn(5), m.columnOf(whole), m.columnOf(whole)), m.columnOf(whole))
	case 5, 6:
		return op(compare, op(api.OpAdd+m.Intn(5), m.literal(whole), m.columnOf(whole)), op(api.OpAdd+m.Intn(5), m.literal(whole), m.literal(whole)))
	}
	return api.Expr{Op: api.OpCast, Field: api.Field{Name: "c", Nullable: true, Type: boolean}, Args: []api.Expr{a}}
}

// filter makes one, or none; seldom one that may not be.
func (m maker) filter() api.Expr {
	if m.in(8) {
		return api.Expr{}
	}
	e := m.truth(3)
	if m.in(30) {
		e = m.columnOf(m.anyType())
	}
	for m.in(20) {
		m.hurt(&e)
	}
	return e
}

// hurt changes one thing of an expression, so that it may be none.
func (m maker) hurt(e *api.Expr) {
	for len(e.Args) > 0 && !m.in(3) {
		e = &e.Args[m.Intn(len(e.Args))]
	}
	switch m.Intn(5) {
	case 0:
		e.Op = 1 + m.Intn(29)
	case 1:
		e.Name = one(m.chance, []string{"", "a", "z"})
	case 2:
		e.Value.Num += 300
	case 3:
		e.Args = e.Args[:max(len(e.Args)-1, 0)]
	case 4:
		*e = m.literal(m.anyType())
	}
}

// extra makes extra bytes: a table's statistics, none, or such that are changed here and there.
func (c *chance) extra(table api.Table) []byte {
	b := modelStatistics(table)
	switch c.Intn(8) {
	case 0, 1:
		return nil
	case 2:
		return b[:c.Intn(len(b)+1)]
	case 3:
		return append(b, make([]byte, 1+c.Intn(5))...)
	case 4, 5:
		for range 1 + c.Intn(3) {
			if len(b) > 0 {
				b[c.Intn(len(b))] ^= byte(1 << c.Intn(8))
			}
		}
	}
	return b
}

// hurtFile changes the message of a block of a file that is open; its sum is right again, or not.
func (c *chance) hurtFile(t testing.TB, b []byte) {
	t.Helper()
	f := opened(t, b)
	if f.Len() == 0 {
		return
	}
	x, _ := f.Block(c.Intn(f.Len()))
	m := messageAt(b, x)
	if c.in(2) || len(m.Body) == 0 {
		b[x.At+c.Intn(24)] ^= byte(1 << c.Intn(8))
		return
	}
	m.Body[c.Intn(len(m.Body))] ^= byte(1 << c.Intn(8))
	relay(t, b, x, m)
}

// messageAt is a copy of a block's message.
func messageAt(b []byte, x api.Block) api.Message {
	at := x.At + 24 + (x.Meta+7)/8*8
	return api.Message{Meta: slices.Clone(b[x.At+24 : x.At+24+x.Meta]), Body: slices.Clone(b[at : at+x.Body])}
}

// relay lays a message of as many bytes in the place of a block's.
func relay(t testing.TB, b []byte, x api.Block, m api.Message) {
	t.Helper()
	if len(m.Meta) != x.Meta || len(m.Body) != x.Body {
		t.Fatal("a message of another length")
	}
	l, e := frame.Put(m)
	if e != api.OK {
		t.Fatalf("frame.Put: %d", e)
	}
	copy(b[x.At:], l)
}
