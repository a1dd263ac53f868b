package stats

import (
	"math/rand"
	"slices"
	"strings"
	"testing"

	"colonnade/api"
	"colonnade/array"
	"colonnade/expr"
	"colonnade/kind"
)

// chance makes fields, values, arrays that lie anyhow, stats and expressions, always the same ones.
type chance struct{ *rand.Rand }

func newChance(seed int64) *chance { return &chance{rand.New(rand.NewSource(seed))} }

// in tells whether one of n cases is met.
func (c *chance) in(n int) bool { return c.Intn(n) == 0 }

// one tells one of a list.
func one[T any](c *chance, l []T) T { return l[c.Intn(len(l))] }

// types are those of columns; those of dictionaries have the ID 0.
var types = strings.Fields(`bool bool? int8 int8? int16 int32? int64 int64? uint8 uint8? uint16 uint32? uint64 uint64? float64 float64? text text? bytes bytes? fixed(2) fixed(16)?
	dict(0,uint8,w_text)? dict(0,int8,w_int64) dict(0,int16,w_bool)? dict(0,int8,w_fixed(2))? runs(v_int8?)? runs(v_bytes) runs(v_bool?)? runs(v_dict(0,int8,w_bytes)?)? runs(v_runs(u_float64?)?)?`)

// boundless are types whose values have no bounds.
var boundless = strings.Fields(`null? list(i_int8)? list(i_text) span(2,i_int8)? struct(a_int8,b_text?)? struct() choice(p_int8,q_text?) dict(0,int8,w_choice(p_int8,q_text))? dict(0,int8,w_list(i_int8)) runs(v_list(i_int8)?)? runs(v_null?)?`)

// fieldOfType makes the field of a type of these lists.
func fieldOfType(t testing.TB, name, text string) api.Field {
	t.Helper()
	return fieldOf(t, name+" "+strings.ReplaceAll(text, "_", " "))
}

// field makes a field of a name, most often one that has bounds.
func (c *chance) field(t testing.TB, name string) api.Field {
	t.Helper()
	if c.in(8) {
		return fieldOfType(t, name, one(c, boundless))
	}
	return fieldOfType(t, name, one(c, types))
}

// renumber gives the dictionary in a field a number.
func renumber(f *api.Field, id int) {
	if f.Type.Kind == api.Dict {
		f.Type.ID = id
	}
	for k := range f.Type.Fields {
		renumber(&f.Type.Fields[k], id)
	}
}

// schema makes a schema of up to so many columns.
func (c *chance) schema(t testing.TB, n int) api.Schema {
	t.Helper()
	var s api.Schema
	for i := range c.Intn(n + 1) {
		f := c.field(t, string(rune('a'+i)))
		renumber(&f, i)
		s.Fields = append(s.Fields, f)
	}
	return s
}

// Texts that differ, end, or are cut at about 16 bytes; some are no UTF-8.
var (
	a15     = strings.Repeat("a", 15)
	full    = strings.Repeat("\xff", 20)
	letters = []string{"", "a", "ab", "b", a15, a15 + "a", a15 + "aa", a15 + "ab", a15 + "b", a15 + "b\x00", a15 + "é", a15 + "éa", a15[1:] + "é", a15 + "\U0010ffff", "\U0010ffff\U0010ffff\U0010ffff\U0010ffff\U0010ffff", "\x00", strings.Repeat("\x00", 17), "\x7f", a15 + "\x7fa"}
	raw     = []string{"\xff", full[:16], full[:17], full, a15 + "\xff", a15 + "\xffa", a15 + "\xff\xff", a15[:14] + "\xff\xff", a15[:14] + "\xff\xffb", "a" + full, "a\xfe" + full, "\xfe" + full, full[:15] + "\xfea", full[:15] + "\xfe", "\xfe"}
	odd     = []uint64{0, 1 << 63, 1, 1<<63 | 1, 0x3ff << 52, 0xbff << 52, 0x7ff << 52, 0xfff << 52, 0x7ff8 << 48, 0xfff8 << 48, 1<<63 - 1, 1<<64 - 1, 0x4008 << 48}
	edges   = []int64{0, 1, 2, 3, -1, -2, 127, -128, 255, 128, 32767, -32768, 65535, 1<<31 - 1, -1 << 31, 1<<32 - 1, 1<<63 - 1, -1 << 63}
)

// value makes a value that fits a field.
func (c *chance) value(f api.Field) (v api.Value) {
	t := f.Type
	if t.Kind == api.Null || f.Nullable && t.Kind != api.Runs && c.in(4) {
		return null
	}
	switch t.Kind {
	case api.Text, api.Bytes:
		v.Text = one(c, letters)
		if t.Kind == api.Bytes && c.in(2) {
			v.Text = one(c, raw)
		}
	case api.Fixed:
		for range t.Width {
			v.Text += one(c, []string{"a", "b", "\xff"})
		}
	case api.List, api.Span:
		n := t.Width
		if t.Kind == api.List {
			n = c.Intn(3)
		}
		for range n {
			v.List = append(v.List, c.value(t.Fields[0]))
		}
	case api.Struct:
		for _, g := range t.Fields {
			v.List = append(v.List, c.value(g))
		}
	case api.Choice:
		v.Num = int64(c.Intn(len(t.Fields)))
		v.List = []api.Value{c.value(t.Fields[v.Num])}
	case api.Dict, api.Runs:
		return c.value(t.Fields[0])
	case api.Float64:
		v.Num = int64(one(c, odd))
	default:
		for v.Num = one(c, edges); !isNumberOf(t.Kind, v.Num); {
			v.Num = one(c, edges)
		}
	}
	return v
}

// column makes so many of them, most out of few.
func (c *chance) column(f api.Field, n int) []api.Value {
	var l []api.Value
	for range n {
		v := c.value(f)
		if len(l) > 0 && c.in(3) {
			v = one(c, l)
		}
		l = append(l, v)
	}
	return l
}

// anyhow makes an array that denotes values: with other rows around them, and others within.
func (c *chance) anyhow(t testing.TB, f api.Field, l []api.Value) api.Data {
	t.Helper()
	ahead, behind := c.column(f, c.Intn(4)), c.column(f, c.Intn(4))
	d := formOf(t, f, slices.Concat(ahead, l, behind))
	d.Offset, d.Length = len(ahead), len(l)
	if k := f.Type.Kind; k != api.Choice && k != api.Runs {
		d.Nulls = 0
		for _, v := range l {
			if v.Null {
				d.Nulls++
			}
		}
	}
	for k, g := range kind.Parts(f.Type) {
		d.Children[k] = c.again(t, g, d.Children[k])
	}
	for k := range d.Dict {
		d.Dict[k] = c.again(t, f.Type.Fields[0], d.Dict[k])
	}
	return d
}

// again makes an array that denotes the same as another one, and lies otherwise.
func (c *chance) again(t testing.TB, f api.Field, d api.Data) api.Data {
	t.Helper()
	a, x := array.Open(f, d)
	if x.Err != api.OK {
		t.Fatalf("Open: %v", x)
	}
	return c.anyhow(t, f, a.Values())
}

// bound makes a value that may be a bound of a field.
func (c *chance) bound(f api.Field) api.Value {
	p := plain(f)
	p.Nullable = false
	if isLetters(p.Type.Kind) {
		p.Type = api.Type{Kind: api.Bytes}
	}
	v := c.value(p)
	v.Text = v.Text[:min(len(v.Text), c.Intn(3)+14)]
	return v
}

// stat makes a stat of a field.
func (c *chance) stat(f api.Field) api.Stat {
	x := api.Stat{Rows: one(c, []int{0, 1, 2, 3, 4096, 524288, 524289, 1048576})}
	x.Nulls = one(c, []int{0, 0, x.Rows, x.Rows / 2, max(x.Rows-1, 0)})
	if !isBounded(f) || x.Nulls == x.Rows || c.in(4) {
		return x
	}
	x.Has, x.Least, x.Most = true, c.bound(f), c.bound(f)
	if c.in(3) {
		x.Most = x.Least
	}
	if inOrder(plain(f).Type.Kind, x.Least, x.Most) > 0 {
		x.Least, x.Most = x.Most, x.Least
	}
	return x
}

// stats makes those of a schema.
func (c *chance) stats(s api.Schema) []api.Stat {
	var l []api.Stat
	for _, f := range s.Fields {
		x := c.stat(f)
		for x.Rows == 0 && !c.in(20) {
			x = c.stat(f)
		}
		l = append(l, x)
	}
	return l
}

// hurtStat changes one thing of a stat, so that it may be none of its field.
func (c *chance) hurtStat(x *api.Stat) {
	v := one(c, []*api.Value{&x.Least, &x.Most})
	switch c.Intn(10) {
	case 0:
		x.Rows = one(c, []int{-1, 0, 1, 1048577, 1 << 32})
	case 1:
		x.Nulls = one(c, []int{-1, x.Rows, x.Rows + 1})
	case 2:
		x.Has = !x.Has
	case 3:
		x.Least, x.Most = x.Most, x.Least
	case 4:
		*v = null
	case 5:
		v.Null = true
	case 6:
		v.Text += one(c, []string{"\xff", "a", full[:17]})
	case 7:
		v.Num += one(c, []int64{1, -1, 128, 1 << 32})
	case 8:
		v.List = []api.Value{{}}
	case 9:
		v.List = []api.Value{}
	}
}

// maker makes expressions over a schema.
type maker struct {
	*chance
	t testing.TB
	s api.Schema
}

// literal makes a literal whose plain type is that one.
func (m maker) literal(want api.Type) api.Expr {
	f := api.Field{Name: "x", Nullable: want.Kind == api.Null || want.Kind != api.Choice && m.in(2), Type: want}
	if want.Kind != api.Null && m.in(4) {
		f = api.Field{Name: "x", Nullable: m.in(2), Type: api.Type{Kind: api.Dict, Index: api.Int8, Fields: []api.Field{{Name: "w", Type: want}}}}
	}
	if m.in(4) {
		f = api.Field{Name: "x", Nullable: f.Nullable, Type: api.Type{Kind: api.Runs, Fields: []api.Field{f}}}
	}
	return lit(f, m.value(f))
}

// columnOf makes a column, if there is one whose plain type is that one; else a literal.
func (m maker) columnOf(want api.Type) api.Expr {
	var l []string
	for _, f := range m.s.Fields {
		if kind.Alike(plain(f).Type, want) {
			l = append(l, f.Name)
		}
	}
	if len(l) == 0 {
		return m.literal(want)
	}
	return named(one(m.chance, l))
}

// anyType makes a plain type, most often that of a column.
func (m maker) anyType() api.Type {
	if n := len(m.s.Fields); n > 0 && !m.in(6) {
		return plain(m.s.Fields[m.Intn(n)]).Type
	}
	return plain(m.field(m.t, "x")).Type
}

var boolean = api.Type{Kind: api.Bool}

// truth makes an expression of Bool, of at most so many levels.
func (m maker) truth(depth int) api.Expr {
	if depth == 0 {
		return one(m.chance, []func(api.Type) api.Expr{m.columnOf, m.literal})(boolean)
	}
	t := m.anyType()
	n := api.OpEq + m.Intn(6)
	switch m.Intn(16) {
	case 0:
		return m.truth(0)
	case 1:
		return op(api.OpIsNull, m.columnOf(t))
	case 2:
		return op(api.OpIsNull, m.literal(t))
	case 3, 4:
		return op(api.OpNot, m.truth(depth-1))
	case 5, 6, 7:
		return op(api.OpAnd, m.truth(depth-1), m.truth(depth-1))
	case 8, 9:
		return op(api.OpOr, m.truth(depth-1), m.truth(depth-1))
	case 10, 11:
		return op(n, m.columnOf(t), m.literal(t))
	case 12, 13:
		return op(n, m.literal(t), m.columnOf(t))
	case 14:
		return op(n, m.literal(t), m.literal(t))
	}
	return m.rare(depth, n, t)
}

// rare makes one of what the chapter knows little of.
func (m maker) rare(depth, n int, t api.Type) api.Expr {
	a, b := m.truth(depth-1), m.truth(depth-1)
	switch m.Intn(9) {
	case 0:
		return op(api.OpIf, m.truth(0), a, b)
	case 1:
		return op(api.OpElse, a, b)
	case 2:
		return op(api.OpBegins+m.Intn(2), m.columnOf(api.Type{Kind: api.Text}), m.literal(api.Type{Kind: api.Text}))
	case 3:
		whole := api.Type{Kind: api.Int64}
		return op(n, op(api.OpDiv, m.columnOf(whole), m.literal(whole)), m.columnOf(whole))
	case 4:
		return op(api.OpIsNull, a)
	case 5:
		return op(n, a, m.literal(boolean))
	case 6:
		return op(n, m.columnOf(t), m.columnOf(t))
	case 7:
		return api.Expr{Op: api.OpCast, Field: api.Field{Name: "c", Nullable: true, Type: boolean}, Args: []api.Expr{a}}
	}
	return op(n, a, b)
}

// hurt changes one thing of an expression, so that it may be none.
func (m maker) hurt(e *api.Expr) {
	for len(e.Args) > 0 && !m.in(3) {
		e = &e.Args[m.Intn(len(e.Args))]
	}
	switch m.Intn(6) {
	case 0:
		e.Op = m.Intn(30) - 2
	case 1:
		e.Name = one(m.chance, []string{"", "a", "z"})
	case 2:
		e.Field.Type.Kind = m.Intn(23) - 1
	case 3:
		e.Value.Num += 300
	case 4:
		e.Args = e.Args[:max(len(e.Args)-1, 0)]
	case 5:
		*e = m.literal(m.anyType())
	}
}

// The makers make what they should.
func TestChance(t *testing.T) {
	c := newChance(1)
	count := map[string]int{}
	for range 6000 {
		s := c.schema(t, 4)
		e := maker{c, t, s}.truth(3)
		l := c.stats(s)
		if err := modelWrong(s, l); err != api.OK {
			t.Fatalf("no stats: %d", err)
		}
		if _, x := expr.Type(s, e); x.Err != api.OK {
			t.Fatalf("no expression: %v", x)
		}
		if slices.ContainsFunc(l, func(x api.Stat) bool { return x.Rows == 0 }) {
			count["no rows"]++
			continue
		}
		m := model{s, l}
		if !m.sure(e) {
			count["unsure"]++
			continue
		}
		may, _ := modelMay(s, e, l)
		o := m.outcomes(e)
		if may && len(o) < 3 {
			count["may"]++
		}
		if !may {
			count["may not"]++
		}
	}
	for what, least := range map[string]int{"no rows": 50, "unsure": 500, "may": 800, "may not": 800} {
		if count[what] < least {
			t.Errorf("%s: only %d", what, count[what])
		}
	}
	t.Log(count)
}
