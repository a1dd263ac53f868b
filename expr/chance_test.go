package expr

import (
	"math/rand"
	"slices"
	"strings"
	"testing"

	"colonnade/api"
	"colonnade/array"
	"colonnade/build"
	"colonnade/calc"
	"colonnade/cast"
	"colonnade/kind"
)

// chance makes schemas, expressions over them, and batches that lie anyhow, always the same ones.
type chance struct{ *rand.Rand }

func newChance(seed int64) *chance { return &chance{rand.New(rand.NewSource(seed))} }

// in tells whether one of n cases is met.
func (c *chance) in(n int) bool { return c.Intn(n) == 0 }

// one tells one of a list.
func one[T any](c *chance, l []T) T { return l[c.Intn(len(l))] }

// types are those of columns, literals and casts; those of dictionaries have the ID 0.
var types = strings.Split("bool bool? int8 int8? int64 int64? uint8? uint64? float64 float64? text text? bytes bytes? fixed(2)? null? runs(v_int8?)? runs(v_text) dict(0,_uint8,_w_text)? dict(0,_int8,_w_int64) dict(0,_int16,_w_bool)? dict(0,_int8,_w_choice(p_int8,_q_text))? list(i_int8)? list(i_int64) span(2,_i_int8)? struct(a_int8,_b_text?)? choice(p_int8,_q_text?) runs(v_dict(0,_int8,_w_text)?)?", " ")

// field makes a field of a name.
func (c *chance) field(t testing.TB, name string) api.Field {
	t.Helper()
	return fieldOf(t, name+" "+strings.ReplaceAll(one(c, types), "_", " "))
}

// schema makes a schema of up to so many columns.
func (c *chance) schema(t testing.TB, n int) api.Schema {
	t.Helper()
	var s api.Schema
	for i := range c.Intn(n + 1) {
		f := c.field(t, string(rune('a'+i)))
		number(&f, i)
		s.Fields = append(s.Fields, f)
	}
	return s
}

// number gives the dictionary in a field a number.
func number(f *api.Field, id int) {
	if f.Type.Kind == api.Dict {
		f.Type.ID = id
	}
	for k := range f.Type.Fields {
		number(&f.Type.Fields[k], id)
	}
}

// plain is a field's plain field.
func plain(f api.Field) api.Field {
	for f.Type.Kind >= api.Dict {
		g := f.Type.Fields[0]
		g.Nullable = f.Nullable
		f = g
	}
	return f
}

// value makes a value that fits a field.
func (c *chance) value(f api.Field) (v api.Value) {
	t := f.Type
	if t.Kind == api.Null || f.Nullable && c.in(5) {
		return null
	}
	n := 0
	switch t.Kind {
	case api.Text, api.Bytes:
		v.Text = one(c, []string{"", "a", "ab", "b", "1", "-1", "true", "é", "0p0", "\"),(", "127"})
	case api.Fixed:
		for range t.Width {
			v.Text += one(c, []string{"a", "b", "1"})
		}
	case api.List:
		n = c.Intn(3)
	case api.Span:
		n = t.Width
	case api.Struct:
		for _, g := range t.Fields {
			v.List = append(v.List, c.value(g))
		}
	case api.Choice:
		v.Num = int64(c.Intn(len(t.Fields)))
		v.List = []api.Value{c.value(t.Fields[v.Num])}
	case api.Dict, api.Runs:
		return c.value(t.Fields[0])
	case api.Bool:
		v.Num = int64(c.Intn(2))
	case api.Float64:
		v.Num = one(c, []int64{0, -1 << 63, 0x3ff << 52, 0x7ff << 52, 0x7ff8 << 48, 0x4000 << 48, 0x43f << 52})
	default:
		v.Num = one(c, []int64{0, 1, 2, 3, 7, 100, 127})
		if t.Kind <= api.Int64 && c.in(2) {
			v.Num = -v.Num
		}
		if c.in(8) && t.Kind == api.Int64 {
			v.Num = one(c, []int64{1<<63 - 1, -1 << 63, 1 << 32})
		}
	}
	for range n {
		v.List = append(v.List, c.value(t.Fields[0]))
	}
	return v
}

// column makes so many of them, some again.
func (c *chance) column(f api.Field, n int) []api.Value {
	var l []api.Value
	for range n {
		v := c.value(f)
		if len(l) > 0 && c.in(3) {
			v = one(c, l)
		}
		l = append(l, v)
	}
	return l
}

// anyhow makes an array that denotes values: with other rows around them.
func (c *chance) anyhow(t testing.TB, f api.Field, l []api.Value) api.Data {
	t.Helper()
	ahead, behind := c.column(f, c.Intn(4)), c.column(f, c.Intn(4))
	d := formOf(t, f, slices.Concat(ahead, l, behind))
	d.Offset, d.Length = len(ahead), len(l)
	if k := f.Type.Kind; k != api.Choice && k != api.Runs {
		d.Nulls = 0
		for _, v := range l {
			if v.Null {
				d.Nulls++
			}
		}
	}
	for k, g := range kind.Parts(f.Type) {
		d.Children[k] = c.again(t, g, d.Children[k])
	}
	for k := range d.Dict {
		d.Dict[k] = c.again(t, f.Type.Fields[0], d.Dict[k])
	}
	return d
}

// again makes an array that denotes the same as another one, and lies otherwise.
func (c *chance) again(t testing.TB, f api.Field, d api.Data) api.Data {
	t.Helper()
	a, x := array.Open(f, d)
	if x.Err != api.OK {
		t.Fatalf("Open: %v", x)
	}
	return c.anyhow(t, f, a.Values())
}

// batch makes a batch of so many rows.
func (c *chance) batch(t testing.TB, s api.Schema, n int) api.Batch {
	t.Helper()
	b := api.Batch{Rows: n}
	for _, f := range s.Fields {
		b.Columns = append(b.Columns, c.anyhow(t, f, c.column(f, n)))
	}
	return b
}

// maker makes expressions over a schema.
type maker struct {
	*chance
	t testing.TB
	s api.Schema
}

// literal makes a literal of a field whose plain field has a type like that.
func (m maker) literal(want api.Type) api.Expr {
	for range 60 {
		if f := m.field(m.t, one(m.chance, []string{"x", "y"})); sameType(plain(f).Type, want) {
			number(&f, m.Intn(api.MaxDicts))
			return lit(f, m.value(f))
		}
	}
	f := api.Field{Name: "z", Nullable: want.Kind == api.Null, Type: want}
	return lit(f, m.value(f))
}

// sameType tells whether two types are the same in all.
func sameType(a, b api.Type) bool { return sameField(api.Field{Type: a}, api.Field{Type: b}) }

// anyType makes a plain type.
func (m maker) anyType() api.Type {
	if n := len(m.s.Fields); n > 0 && m.in(2) {
		return plain(m.s.Fields[m.Intn(n)]).Type
	}
	return plain(m.field(m.t, "x")).Type
}

// leaf makes a column or a literal of a plain type.
func (m maker) leaf(want api.Type) api.Expr {
	var l []string
	for _, f := range m.s.Fields {
		if sameType(plain(f).Type, want) {
			l = append(l, f.Name)
		}
	}
	if len(l) > 0 && !m.in(4) {
		return named(one(m.chance, l))
	}
	return m.literal(want)
}

// expr makes an expression of a plain type, of at most so many levels.
func (m maker) expr(want api.Type, depth int) api.Expr {
	if depth == 0 || m.in(6) {
		return m.leaf(want)
	}
	boolean := api.Type{Kind: api.Bool}
	more := func(t api.Type) api.Expr { return m.expr(t, depth-1) }
	switch k := want.Kind; {
	case m.in(7):
		return op(api.OpIf, more(boolean), more(want), more(want))
	case m.in(7):
		return op(api.OpElse, more(want), more(want))
	case m.in(7):
		return m.cast(want, depth)
	case k == api.Bool:
		return m.truth(depth)
	case k == api.Int64 && m.in(4):
		return op(api.OpLen, more(plain(fieldOf(m.t, one(m.chance, []string{"x text", "x bytes", "x fixed(2)", "x list(i int8)", "x span(2, i int8)"}))).Type))
	case k >= api.Int8 && k <= api.Float64:
		n := one(m.chance, []int{api.OpAdd, api.OpAdd, api.OpSub, api.OpMul, api.OpDiv, api.OpRem, api.OpNeg})
		if n == api.OpRem && k == api.Float64 || n == api.OpNeg && k >= api.Uint8 && k <= api.Uint64 {
			n = api.OpAdd
		}
		if n == api.OpNeg {
			return op(n, more(want))
		}
		return op(n, more(want), more(want))
	case k == api.Text || k == api.Bytes:
		return op(api.OpGlue, more(want), more(want))
	}
	return m.leaf(want)
}

// truth makes an expression of Bool.
func (m maker) truth(depth int) api.Expr {
	boolean := api.Type{Kind: api.Bool}
	t := m.anyType()
	letters := api.Type{Kind: api.Text + m.Intn(2)}
	more := func(t api.Type) api.Expr { return m.expr(t, depth-1) }
	switch m.Intn(6) {
	case 0:
		return op(api.OpIsNull, more(t))
	case 1:
		return op(api.OpNot, more(boolean))
	case 2, 3:
		return op(api.OpAnd+m.Intn(2), more(boolean), more(boolean))
	case 4:
		return op(api.OpBegins+m.Intn(2), more(letters), more(letters))
	}
	return op(api.OpEq+m.Intn(6), more(t), more(t))
}

// cast makes a cast to a plain type, or, if there seems to be none, a leaf.
func (m maker) cast(want api.Type, depth int) api.Expr {
	to := m.literal(want).Field
	for range 10 {
		if f := m.field(m.t, "x"); cast.Can(f, to) {
			return api.Expr{Op: api.OpCast, Field: to, Args: []api.Expr{m.expr(plain(f).Type, depth-1)}}
		}
	}
	return m.leaf(want)
}

// any makes an expression, mostly one that has a type.
func (m maker) any(depth int) api.Expr {
	e := m.expr(m.anyType(), depth)
	for m.in(6) {
		m.hurt(&e)
	}
	return e
}

// hurt changes one thing of an expression.
func (m maker) hurt(e *api.Expr) {
	for len(e.Args) > 0 && !m.in(3) {
		e.Args = slices.Clone(e.Args)
		e = &e.Args[m.Intn(len(e.Args))]
	}
	switch m.Intn(13) {
	case 0:
		e.Op = m.Intn(30) - 2
	case 1:
		e.Name = one(m.chance, []string{"", "a", "z", "0", "a b", "add"})
	case 2:
		e.Field = api.Field{}
	case 3:
		e.Field.Nullable = !e.Field.Nullable
	case 4:
		e.Field.Type.Kind = m.Intn(23) - 1
	case 5:
		e.Value.Num = one(m.chance, []int64{0, 2, 300})
	case 6:
		e.Value = api.Value{Null: !e.Value.Null}
	case 7:
		e.Args = append(e.Args[:len(e.Args):len(e.Args)], m.expr(m.anyType(), 1))
	case 8:
		e.Args = e.Args[:max(len(e.Args)-1, 0)]
	case 9:
		e.Op = api.OpAdd + m.Intn(api.OpHolds)
	case 10:
		*e = m.expr(m.anyType(), 1)
	case 11:
		*e = op(one(m.chance, []int{api.OpNeg, api.OpAdd, api.OpNot, api.OpIf}), *e)
	case 12:
		*e = named(one(m.chance, []string{"a", "f", "z"}))
	}
}

// asked makes a schema, a batch of it, and an expression over it.
func (c *chance) asked(t testing.TB, rows, depth int) (api.Schema, api.Batch, api.Expr) {
	t.Helper()
	s := c.schema(t, 6)
	return s, c.batch(t, s, c.Intn(rows+1)), maker{c, t, s}.any(depth)
}

// typedOnes makes them likewise, but such expressions alone as have a type.
func (c *chance) typedOnes(t testing.TB, rows, depth int) (api.Schema, api.Batch, api.Expr) {
	t.Helper()
	for {
		s, b, e := c.asked(t, rows, depth)
		if _, x := modelType(s, e); x.Err == api.OK {
			return s, b, e
		}
	}
}

// The makers make what they should: calc takes most of it, and rows are refused and not refused.
func TestChance(t *testing.T) {
	c := newChance(1)
	count := map[string]int{}
	for range 3000 {
		s, b, e := c.asked(t, 6, 4)
		if _, err := build.Rows(s, b); err != api.OK {
			t.Fatalf("build.Rows: %d", err)
		}
		_, x := modelType(s, e)
		if x.Err != api.OK {
			count["no type"]++
			continue
		}
		count["typed"]++
		for _, y := range above(e) {
			if _, err := calc.Type(y.e.Op, nil); err != api.OK && y.e.Op < api.OpCast {
				count["calc"]++
			}
		}
		if want := modelEval(s, b, e); want.x.Err != api.OK {
			count["refused"]++
			if want.x.At > 0 {
				count["behind the first row"]++
			}
		} else if b.Rows > 0 && e.Op <= api.OpCast {
			count["told"]++
		}
	}
	for what, least := range map[string]int{"no type": 300, "typed": 1500, "refused": 300, "behind the first row": 40, "told": 600, "calc": 3000} {
		if count[what] < least {
			t.Errorf("%s: only %d", what, count[what])
		}
	}
	t.Log(count)
}
