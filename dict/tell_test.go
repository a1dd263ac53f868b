package dict

import (
	"math"
	"strconv"
	"strings"
	"testing"

	"colonnade/api"
	"colonnade/value"
)

// A dictionary up to as many values as the indices have numbers, and one more; of the wider kinds up to MaxRows.
func TestNumbersOfIndices(t *testing.T) {
	for index, most := range map[string]int{"int8": 128, "uint8": 256, "int16": 4096, "uint16": 4096, "int32": 4096, "uint32": 4096, "int64": 4096, "uint64": 4096} {
		for _, delta := range []bool{true, false} {
			s := schema(t, "d dict(7, "+index+", v int32)")
			b, _ := Open(s)
			m := newModel(s)
			for _, c := range []struct {
				l   []api.Value
				how int
				len int
			}{
				{from(0, most-1), Anew, most - 1},
				{from(most-1, most), New, most},
				{from(most-1, most), Nothing, most},
				{from(0, most), Nothing, most},
				{join(from(most, most+1), from(0, 1), from(most, most+1)), Anew, 2},
				{from(0, most-1), New, most},
				{from(0, most), Anew, most},
				{nil, Nothing, most},
			} {
				want := c.how
				if want == New && !delta {
					want = Anew
				}
				if how, e := m.asks(t, b, 7, c.l, delta); how != want || e != api.OK || b.Len(7) != c.len {
					t.Fatalf("%s: %d values: %d, %d, Len %d", index, len(c.l), how, e, b.Len(7))
				}
			}
			want := api.Errno(api.ErrIndices)
			if most == 4096 {
				want = api.ErrRows
			}
			if _, e := m.asks(t, b, 7, from(0, most+1), delta); e != want {
				t.Errorf("%s: one too many: %d", index, e)
			}
			m.hold(t, b)
		}
	}
}

// None is known, and the values are more than can be: nothing is known behind it.
func TestNoneCanBe(t *testing.T) {
	s := schema(t, "d dict(0, int8, v text)")
	b, _ := Open(s)
	m := newModel(s)
	for _, l := range [][]api.Value{from129(), texts(long("", 65537)), texts(long("a", 40000), long("b", 40000))} {
		if _, e := m.asks(t, b, 0, l, true); e != api.ErrIndices || b.Len(0) != -1 {
			t.Errorf("Tell: %d, Len %d", e, b.Len(0))
		}
	}
	if how, e := m.asks(t, b, 0, texts(long("a", 65536), "", long("a", 65536)), true); how != Anew || e != api.OK {
		t.Errorf("as many bytes as may be: %d, %d", how, e)
	}
}

// from129 is one more unlike text than indices of Int8 have numbers.
func from129() []api.Value { return texts(numbered(0, 129)...) }

// What can't be for its bytes: the values asked for alone, if these can be.
func TestBytesOfTell(t *testing.T) {
	for _, delta := range []bool{true, false} {
		s := schema(t, "d dict(0, int16, v bytes)")
		b, _ := Open(s)
		m := newModel(s)
		for i, c := range []struct {
			l   []api.Value
			how int
			e   api.Errno
			len int
		}{
			{texts(long("a", 65535)), Anew, api.OK, 1},
			{texts("b"), New, api.OK, 2},
			{texts(""), New, api.OK, 3},
			{texts("c", "", "c"), Anew, api.OK, 2},
			{texts(long("a", 40000), long("b", 30000)), Nothing, api.ErrIndices, 2},
			{texts(long("a", 40000), "c"), New, api.OK, 3},
			{texts(long("b", 40000), "c"), Anew, api.OK, 2},
			{texts(long("b", 40000), long("c", 40000)), Nothing, api.ErrIndices, 2},
			{texts(long("b", 40000), long("b", 40000), "c"), Nothing, api.OK, 2},
		} {
			want := c.how
			if want == New && !delta {
				want = Anew
			}
			if how, e := m.asks(t, b, 0, c.l, delta); how != want || e != c.e || b.Len(0) != c.len {
				t.Errorf("%d: %d, %d, Len %d", i, how, e, b.Len(0))
			}
			m.hold(t, b)
		}
	}
}

// wide is the type of a struct of so many fields in all, itself too; the first one that has no children is of Int16.
func wide(nodes int) api.Type {
	top := api.Type{Kind: api.Struct, Fields: make([]api.Field, 3)}
	for k := range top.Fields {
		top.Fields[k] = api.Field{Name: "s" + strconv.Itoa(k), Type: api.Type{Kind: api.Struct}}
	}
	for i := range nodes - 4 {
		leaf := api.Field{Name: "x" + strconv.Itoa(i), Type: api.Type{Kind: api.Int16}}
		t := &top.Fields[i%3].Type
		t.Fields = append(t.Fields, leaf)
	}
	return top
}

// Of a struct of 64 fields in all 4,096 values weigh just as much as may be; of one with a field more these are too many.
func TestWeightOfTell(t *testing.T) {
	for nodes, most := range map[int]int{64: 4096, 65: 4032} {
		d := api.Field{Name: "d", Type: api.Type{Kind: api.Dict, Index: api.Uint64, Fields: []api.Field{{Name: "v", Type: wide(nodes)}}}}
		b, e := Open(api.Schema{Fields: []api.Field{d}})
		if e != api.OK {
			t.Fatal(e)
		}
		f := fieldOf(t, b, 0)
		zero, e := value.Zero(f)
		if e != api.OK {
			t.Fatal(e)
		}
		one := func(n int) api.Value {
			l := copyOf([]api.Value{zero})
			l[0].List[0].List[0].Num = int64(n)
			return l[0]
		}
		if got := weight(zero); got != 16*nodes {
			t.Fatalf("the test itself: %d", got)
		}
		var l []api.Value
		for i := range most {
			l = append(l, one(i))
		}
		if _, how, p, e := b.Tell(0, l, true); how != Anew || e != api.OK || !sameInts(p, upTo(most)) {
			t.Errorf("%d nodes, %d values: %d, %d", nodes, most, how, e)
		}
		if _, how, p, e := b.Tell(0, []api.Value{one(most - 1), one(most), one(0)}, true); how != Anew || e != api.OK || !sameInts(p, []int{0, 1, 2}) || b.Len(0) != 3 {
			t.Errorf("%d nodes: one more: %d, %v, %d", nodes, how, p, e)
		}
		if most < 4096 {
			if _, _, _, e := b.Tell(0, append(l, one(most)), true); e != api.ErrIndices || b.Len(0) != 3 {
				t.Errorf("%d nodes: all at once: %d", nodes, e)
			}
		}
	}
}

// weight is a value's weight.
func weight(v api.Value) int {
	w := 16 + len(v.Text)
	for _, x := range v.List {
		w += weight(x)
	}
	return w
}

// Rows within values are too many, though the values are few.
func TestRowsWithin(t *testing.T) {
	s := schema(t, "d dict(0, int16, v list(i int16))")
	b, _ := Open(s)
	m := newModel(s)
	for i, c := range []struct {
		l   []api.Value
		how int
		e   api.Errno
	}{
		{[]api.Value{list(from(0, 4000)...), list(), list(from(0, 96)...)}, Anew, api.OK},
		{[]api.Value{list(), list(from(0, 4000)...)}, Nothing, api.OK},
		{[]api.Value{list(num(1)), list()}, Anew, api.OK},
		{[]api.Value{list(from(0, 4000)...), list(from(0, 97)...)}, Nothing, api.ErrIndices},
		{[]api.Value{list(from(0, 4095)...)}, New, api.OK},
		{[]api.Value{list(from(0, 4097)...)}, Nothing, api.ErrValue},
	} {
		if how, e := m.asks(t, b, 0, c.l, true); how != c.how || e != c.e {
			t.Errorf("%d: %d, %d", i, how, e)
		}
		m.hold(t, b)
	}
}

// A dictionary that was made known by an array may have more values than the indices have numbers, and the same ones again and again: each counts.
func TestMadeKnown(t *testing.T) {
	s := schema(t, "d dict(0, int8, v int32)")
	b, _ := Open(s)
	m := newModel(s)
	f := fieldOf(t, b, 0)
	put := func(l []api.Value, grow bool) {
		t.Helper()
		d := formed(t, f, l)
		lay := b.Replace
		if grow {
			lay = b.Grow
		}
		if e, want := lay(0, d), m.put(0, d, grow); e != want || e != api.OK {
			t.Fatalf("%d, not %d", e, want)
		}
		m.hold(t, b)
	}
	tell := func(l []api.Value, how int, len int) {
		t.Helper()
		if h, e := m.asks(t, b, 0, l, true); h != how || e != api.OK || b.Len(0) != len {
			t.Fatalf("Tell: %d, %d, Len %d", h, e, b.Len(0))
		}
		m.hold(t, b)
	}
	put(from(0, 300), false)
	tell(join(from(299, 300), from(0, 1)), Nothing, 300)
	tell(from(0, 300), Nothing, 300)
	tell(from(1000, 1001), Anew, 1)
	ones := join(from(1, 2), from(1, 2))
	for range 5 {
		ones = join(ones, ones)
	}
	put(ones, false)
	put(from(1, 2), true)
	tell(from(1, 2), Nothing, 65)
	tell(from(2, 65), New, 128)
	tell(from(64, 65), Nothing, 128)
	put(join(ones, ones), false)
	tell(from(1, 3), Anew, 2)
	put(nil, false)
	tell(nil, Nothing, 0)
	tell(from(1, 3), New, 2)
	put(from(0, 3), true)
	tell(from(0, 3), Nothing, 5)
	put(from(2, 3), false)
	tell(from(1, 3), New, 2)
}

// Values whose hashes are the same are held against each other.
func TestSameHash(t *testing.T) {
	x, y := num(3198783724751129639), num(-1880566314877556451)
	if value.Hash(x) != value.Hash(y) {
		t.Fatal("the hashes are unlike")
	}
	s := schema(t, "d dict(0, int8, v int64)")
	for _, order := range [][]api.Value{{x, y}, {y, x}} {
		b, _ := Open(s)
		m := newModel(s)
		for i, l := range [][]api.Value{order[:1], order[1:], order, {num(1), y, x, y}, from(0, 128), {x, y, x}, order[1:]} {
			m.asks(t, b, 0, l, i%2 == 0)
			m.hold(t, b)
		}
		c, n := b.Copy(), m.copy()
		d := formed(t, fieldOf(t, b, 0), []api.Value{y, x, y})
		for i, k := range []*Book{c, b} {
			if e := k.Replace(0, d); e != api.OK || []*model{n, m}[i].put(0, d, false) != api.OK {
				t.Fatalf("Replace: %d", e)
			}
			[]*model{n, m}[i].asks(t, k, 0, []api.Value{x, y}, true)
			n.hold(t, c)
			m.hold(t, b)
		}
	}
}

// Which values are the same: by their bits, in all that they have.
func TestUnlike(t *testing.T) {
	bits := func(x float64) api.Value { return num(int64(math.Float64bits(x))) }
	nan := int64(0x7ff8000000000000)
	for _, c := range []struct {
		field  string
		unlike []api.Value
	}{
		{"float64", []api.Value{bits(0), bits(math.Copysign(0, -1)), num(nan), num(nan + 1), num(nan | math.MinInt64), bits(1)}},
		{"uint64", []api.Value{num(-1), num(0), num(math.MinInt64)}},
		{"bool", []api.Value{num(1), num(0)}},
		{"text", texts("", "\x00", "a", "A", "a ", "é", "e\u0301")},
		{"bytes", texts("\xff", "", "\xff\x00")},
		{"fixed(2)", texts("\x00\x00", "\x00a", "a\x00")},
		{"list(i int8?)", []api.Value{list(), list(api.Value{Null: true}), list(num(0)), list(num(0), num(0))}},
		{"list(i list(j int8))", []api.Value{list(list(num(1)), list()), list(list(), list(num(1))), list(list(num(1)))}},
		{"list(i text)", []api.Value{list(texts("a", "b")...), list(texts("ab", "")...), list(texts("ab")...)}},
		{"span(2, i text?)", []api.Value{list(texts("", "")...), list(api.Value{Null: true}, api.Value{}), list(api.Value{}, api.Value{Null: true})}},
		{"struct(a int8, b int8)", []api.Value{list(num(1), num(2)), list(num(2), num(1))}},
		{"struct()", []api.Value{{}}},
		{"choice(a int8, b int8, c struct()?)", []api.Value{chosen(0, num(1)), chosen(1, num(1)), chosen(2, api.Value{}), chosen(2, api.Value{Null: true})}},
	} {
		s := schema(t, "d dict(31, uint8, v "+c.field+")")
		b, _ := Open(s)
		m := newModel(s)
		n := len(c.unlike)
		if how, e := m.asks(t, b, 31, join(c.unlike, copyOf(c.unlike)), true); how != Anew || e != api.OK || b.Len(31) != n {
			t.Errorf("%s: %d, %d, Len %d", c.field, how, e, b.Len(31))
		}
		if d, how, p, e := b.Tell(31, c.unlike[n-1:], false); how != Nothing || e != api.OK || !sameInts(p, []int{n - 1}) || d.Length != 0 {
			t.Errorf("%s: the last one: %d, %v, %d", c.field, how, p, e)
		}
		m.hold(t, b)
		// A list without elements may be nil or not.
		if _, how, _, e := b.Tell(31, emptied(c.unlike), true); how != Nothing || e != api.OK {
			t.Errorf("%s: lists that aren't nil: %d, %d", c.field, how, e)
		}
	}
}

// emptied is the same values, without a list that is nil.
func emptied(l []api.Value) []api.Value {
	x := append([]api.Value{}, l...)
	for i := range x {
		x[i].List = emptied(x[i].List)
	}
	return x
}

// Values that don't fit, wherever they stand.
func TestDontFit(t *testing.T) {
	for _, c := range []struct {
		field string
		good  api.Value
		bad   []api.Value
	}{
		{"int8", num(1), []api.Value{num(128), num(-129), {Null: true}, {Text: "a"}, {Num: 1, List: from(0, 1)}}},
		{"text", texts("a")[0], []api.Value{{Text: "\xff"}, {Null: true}, num(1), {Text: strings.Repeat("x", 4194304)}}},
		{"fixed(3)", texts("abc")[0], texts("ab", "abcd", "")},
		{"list(i int8)", list(num(1)), []api.Value{list(num(200)), list(api.Value{Null: true}), {Null: true}}},
		{"choice(a int8)", chosen(0, num(1)), []api.Value{chosen(1, num(1)), chosen(-1, num(1)), {}, list(num(1), num(2))}},
	} {
		s := schema(t, "d dict(0, int8, v "+c.field+")?")
		b, _ := Open(s)
		m := newModel(s)
		for _, bad := range c.bad {
			for _, l := range [][]api.Value{{bad}, {c.good, bad}, {bad, c.good}} {
				if _, e := m.asks(t, b, 0, l, true); e != api.ErrValue {
					t.Errorf("%s: %d", c.field, e)
				}
				m.hold(t, b)
			}
		}
		m.asks(t, b, 0, []api.Value{c.good}, true)
		if _, e := m.asks(t, b, 0, []api.Value{c.good, c.bad[0]}, true); e != api.ErrValue || b.Len(0) != 1 {
			t.Errorf("%s: behind one that is known: %d", c.field, e)
		}
	}
}
