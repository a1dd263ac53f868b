package stats

import (
	"slices"
	"strings"
	"testing"

	"colonnade/api"
	"colonnade/array"
)

// notFields are fields that may not be.
func notFields(t testing.TB) []api.Field {
	ring := make([]api.Field, 1)
	ring[0] = api.Field{Name: "i", Type: api.Type{Kind: api.List, Fields: ring}}
	return []api.Field{
		{}, {Name: "a"}, {Name: "0", Type: api.Type{Kind: api.Int8}}, {Name: "a", Type: api.Type{Kind: api.Null}}, {Name: "a", Type: api.Type{Kind: api.Dict}}, {Name: "a", Type: api.Type{Kind: api.Runs}},
		{Name: "a", Type: api.Type{Kind: api.Int8, Width: 1}}, {Name: "a", Type: api.Type{Kind: 21}}, ring[0],
		{Name: "a", Nullable: true, Type: api.Type{Kind: api.Runs, Fields: []api.Field{fieldOf(t, "b int8")}}},
		{Name: "a", Type: api.Type{Kind: api.Dict, Index: api.Int8, Fields: []api.Field{fieldOf(t, "b int8?")}}},
	}
}

// P23.1: a field that may not be is told ahead of what is wrong with the array, which is told by array.Check.
func TestOfWrong(t *testing.T) {
	for i, f := range notFields(t) {
		for _, d := range []api.Data{{}, {Length: -1}, {Length: 1, Buffers: [][]byte{nil, {1}}}} {
			x, e := Of(f, d)
			same(t, "field "+string(rune('0'+i)), x, e, api.Stat{}, api.ErrType)
		}
	}
	c := newChance(2)
	count := map[api.Errno]int{}
	for range 4000 {
		f := c.field(t, "a")
		d := c.anyhow(t, f, c.column(f, c.Intn(4)))
		c.hurtArray(&d)
		a, fault := array.Open(f, d)
		count[fault.Err]++
		want := api.Stat{}
		if fault.Err == api.OK {
			want = modelOf(f, a.Values())
		}
		x, e := Of(f, d)
		same(t, f.Name, x, e, want, fault.Err)
	}
	for _, e := range []api.Errno{api.OK, api.ErrShape, api.ErrLength, api.ErrSmall, api.ErrRows, api.ErrOffsets, api.ErrEnds, api.ErrIndex} {
		if count[e] < 10 {
			t.Errorf("the error %d came only %d times", e, count[e])
		}
	}
}

// hurtArray changes one thing of an array, so that it may be none of its field.
func (c *chance) hurtArray(x *api.Data) {
	for within := slices.Concat(x.Children, x.Dict); len(within) > 0 && c.in(2); within = slices.Concat(x.Children, x.Dict) {
		if k := c.Intn(len(within)); k < len(x.Children) {
			x = &x.Children[k]
		} else {
			x = &x.Dict[0]
		}
	}
	switch n := len(x.Buffers); c.Intn(6) {
	case 0:
		x.Length += c.Intn(9) - 4
	case 1:
		x.Nulls += c.Intn(3) - 1
	case 2:
		x.Children, x.Dict = x.Dict, x.Children
	case 3:
		x.Offset = one(c, []int{-1, 4096, 4095, 0})
	case 4:
		if n > 0 {
			b := &x.Buffers[c.Intn(n)]
			*b = (*b)[:c.Intn(len(*b)+1)]
		}
	case 5:
		for _, b := range x.Buffers {
			for i := range b {
				b[i] ^= byte(c.Intn(256) & c.Intn(256))
			}
		}
	}
}

// P23.1, P23.5: of arrays however they lie, of any field: what is told is what the chapter says of their values, is a stat, and holds of each.
func TestOf(t *testing.T) {
	c := newChance(3)
	has, hasNot := 0, 0
	for range 8000 {
		f := c.field(t, "a")
		l := c.column(f, c.Intn(6))
		x, e := Of(f, c.anyhow(t, f, l))
		same(t, f.Name, x, e, modelOf(f, l), api.OK)
		if !modelIsStat(f, x) {
			t.Fatalf("no stat: %s", told(x))
		}
		holds(t, f, x, l)
		if x.Has {
			has++
		} else if len(l) > x.Nulls && isBounded(f) {
			hasNot++
		}
	}
	if has < 3000 || hasNot < 100 {
		t.Errorf("with bounds %d, without %d", has, hasNot)
	}
}

// holds tells whether what is known of values is so: no more are null or not, and none lies beyond the bounds.
func holds(t testing.TB, f api.Field, x api.Stat, l []api.Value) {
	t.Helper()
	k, nulls := plain(f).Type.Kind, 0
	for _, v := range l {
		switch {
		case v.Null:
			nulls++
		case x.Has && (inOrder(k, x.Least, v) > 0 || inOrder(k, v, x.Most) > 0):
			t.Fatalf("%d %q lies beyond %s", v.Num, v.Text, told(x))
		}
	}
	if x.Rows != len(l) || x.Nulls != nulls {
		t.Fatalf("%d values, %d nulls: %s", len(l), nulls, told(x))
	}
}

// P23.1: numbers are bounded by the order of their kind, whatever their bits.
func TestOfNumbers(t *testing.T) {
	for _, c := range []struct {
		field       string
		l           []int64
		least, most int64
	}{
		{"n bool", []int64{1, 0}, 0, 1}, {"n bool", []int64{1, 1}, 1, 1},
		{"n int8", []int64{127, -128, 0}, -128, 127}, {"n int64", []int64{1<<63 - 1, -1 << 63}, -1 << 63, 1<<63 - 1},
		{"n uint8", []int64{200, 100}, 100, 200}, {"n uint32", []int64{1<<32 - 1, 1}, 1, 1<<32 - 1},
		{"n uint64", []int64{-1, 1, 1<<63 - 1}, 1, -1}, {"n uint64", []int64{-1, -1 << 63}, -1 << 63, -1},
		{"n float64", []int64{0, -1 << 63}, -1 << 63, 0},                                          // -0 and 0
		{"n float64", []int64{0x7ff8 << 48, 0x7ff << 52, 0x3ff << 52}, 0x3ff << 52, 0x7ff8 << 48}, // 1 and a NaN
		{"n float64", []int64{-0x400 << 52, -1, -1 << 63, -0x010 << 52}, -1, -1 << 63},            // with the sign bit: a NaN and -0
		{"n runs(v uint64)", []int64{-1, 3, 3}, 3, -1}, {"n dict(0, int8, v int8)", []int64{-1, 3, -7}, -7, 3},
	} {
		f := fieldOf(t, c.field)
		var l []api.Value
		for _, n := range c.l {
			l = append(l, num(n))
		}
		want := bounds(len(l), 0, num(c.least), num(c.most))
		if x := statOfValues(t, f, l...); told(x) != told(want) {
			t.Errorf("%s of %v: %s, not %s", c.field, c.l, told(x), told(want))
		}
	}
}

// P23.1: texts of more than 16 bytes are cut, the greatest one is raised.
func TestOfCut(t *testing.T) {
	a := strings.Repeat("a", 40)
	ff := strings.Repeat("\xff", 40)
	for _, c := range []struct {
		text, least, most string
		has               bool
	}{
		{"", "", "", true},
		{a[:15], a[:15], a[:15], true},
		{a[:16], a[:16], a[:16], true},
		{a[:17], a[:16], a[:15] + "b", true},
		{ff[:16], ff[:16], ff[:16], true},
		{ff[:17], "", "", false},
		{ff, "", "", false},
		{ff[:15] + "a", ff[:15] + "a", ff[:15] + "a", true},
		{ff[:15] + "aa", ff[:15] + "a", ff[:15] + "b", true},
		{ff[:15] + "\xfe\x00", ff[:15] + "\xfe", ff[:16], true},
		{"a" + ff, "a" + ff[:15], "b", true},
		{"\xfe" + ff, "\xfe" + ff[:15], "\xff", true},
		{"a\xfe\xfe" + ff, "a\xfe\xfe" + ff[:13], "a\xfe\xff", true},
		{"\x00" + ff, "\x00" + ff[:15], "\x01", true},
		{a[:16] + "\xff", a[:16], a[:15] + "b", true},
		{a[:13] + "\xff\xff\xffa", a[:13] + "\xff\xff\xff", a[:12] + "b", true},
		{a[:15] + "\x7f\x7f", a[:15] + "\x7f", a[:15] + "\x80", true},
	} {
		want := api.Stat{Rows: 1}
		if c.has {
			want = bounds(1, 0, text(c.least), text(c.most))
		}
		if x := statOfValues(t, fieldOf(t, "n bytes"), text(c.text)); told(x) != told(want) {
			t.Errorf("%q: %s, not %s", c.text, told(x), told(want))
		}
	}
	// A letter may be cut apart.
	x := statOfValues(t, fieldOf(t, "n text"), text(a[:15]+"éa"))
	if want := bounds(1, 0, text(a[:15]+"\xc3"), text(a[:15]+"\xc4")); told(x) != told(want) {
		t.Errorf("%s, not %s", told(x), told(want))
	}
	// The greatest one has no bound: so there is none, though others have.
	x = statOfValues(t, fieldOf(t, "n bytes?"), text("a"), null, text(ff[:17]), text("b"))
	if want := (api.Stat{Rows: 4, Nulls: 1}); told(x) != told(want) {
		t.Errorf("%s, not %s", told(x), told(want))
	}
	// One that has none, but is not the greatest: texts of which just the last bytes differ.
	x = statOfValues(t, fieldOf(t, "n bytes"), text(a[:16]+"\xff"), text(a[:16]+"\x00"), text("b"))
	if want := bounds(3, 0, text(a[:16]), text("b")); told(x) != told(want) {
		t.Errorf("%s, not %s", told(x), told(want))
	}
}

// P23.1: of kinds without bounds the rows and the nulls are known alone.
func TestOfBoundless(t *testing.T) {
	c := newChance(4)
	for _, s := range boundless {
		f := fieldOfType(t, "a", s)
		for n := range 6 {
			l := c.column(f, n)
			x, e := Of(f, c.anyhow(t, f, l))
			nulls := len(slices.DeleteFunc(slices.Clone(l), func(v api.Value) bool { return !v.Null }))
			same(t, s, x, e, api.Stat{Rows: n, Nulls: nulls}, api.OK)
		}
	}
}

// P23.1: of as many rows as an array has at most.
func TestOfMany(t *testing.T) {
	f := fieldOf(t, "a text?")
	l := make([]api.Value, api.MaxRows)
	for i := range l {
		l[i] = text(strings.Repeat("x", i%7))
	}
	l[4095], l[17] = null, text("w")
	if x, want := statOfValues(t, f, l...), bounds(4096, 1, text(""), text("xxxxxx")); told(x) != told(want) {
		t.Errorf("%s, not %s", told(x), told(want))
	}
	// One word named by all rows, as much as an array may weigh.
	f = fieldOf(t, "a dict(0, int8, w bytes)")
	d := formOf(t, f, []api.Value{text(strings.Repeat("x", 1000))})
	d.Length, d.Buffers[1] = 4096, make([]byte, 4096)
	x, e := Of(f, d)
	same(t, "one word", x, e, bounds(4096, 0, text(strings.Repeat("x", 16)), text(strings.Repeat("x", 15)+"y")), api.OK)
}
