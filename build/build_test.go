package build

import (
	"strconv"
	"testing"

	"colonnade/api"
	"colonnade/array"
	"colonnade/value"
)

// sameValues tells whether two lists of values are the same.
func sameValues(a, b []api.Value) bool { return value.Same(list(a...), list(b...)) }

// denoted tells the values of an array.
func denoted(t testing.TB, f api.Field, d api.Data) []api.Value {
	t.Helper()
	a, x := array.Open(f, d)
	if x.Err != api.OK {
		t.Fatalf("no array: %v", x)
	}
	return a.Values()
}

// checkOf holds what Of answers for a list against the models, and tells the error.
func checkOf(t *testing.T, f api.Field, l []api.Value) api.Errno {
	t.Helper()
	d, e, at := Of(f, l)
	we, wat := modelOf(f, l)
	if e != we || at != wat {
		t.Fatalf("Of of %d values of %v: %d, %d, not %d, %d", len(l), f, e, at, we, wat)
	}
	if e == api.ErrValue {
		return e
	}
	if e != api.OK {
		_, without := modelForm(f, l[:at])
		_, with := modelForm(f, l[:at+1])
		if !isZero(d) || !without || with {
			t.Fatalf("Of of %v: %d, %d: what is ahead can be built: %v, with it: %v", f, e, at, without, with)
		}
		return e
	}
	want, ok := modelForm(f, l)
	if !ok || !modelSame(d, want) {
		t.Fatalf("Of of %v of %v: %v, not %v", l, f, printed(d), printed(want))
	}
	if !sameValues(denoted(t, f, d), l) {
		t.Fatalf("Of of %v of %v denotes something else", l, f)
	}
	return e
}

// P9.1, P9.6: small lists of all fields.
func TestOf(t *testing.T) {
	c := newChance(1)
	for range 4000 {
		f := c.field()
		checkOf(t, f, c.values(f, c.Intn(12), 4))
	}
}

// P9.1, P9.8: lists that meet a limit, somewhere.
func TestLoads(t *testing.T) {
	c := newChance(2)
	met := map[api.Errno]int{}
	for range 250 {
		f := c.field()
		size := []int{0, 3, 30, 300, 3000, 30000}[c.Intn(6)]
		n := 4200
		if size > 100 {
			n = 200
		}
		var l []api.Value
		for weight := 0; len(l) < n && weight < 5000000; {
			v := c.value(f, size)
			weight += modelWeight(v) + 16*c.Intn(2)
			l = append(l, v)
		}
		met[checkOf(t, f, l)]++
	}
	for _, e := range []api.Errno{api.OK, api.ErrRows, api.ErrBytes, api.ErrIndices} {
		if met[e] < 3 {
			t.Errorf("%d was met %d times", e, met[e])
		}
	}
}

// P9.8: each part of a list that can be built can be built.
func TestParts(t *testing.T) {
	c := newChance(3)
	for range 60 {
		f := c.field()
		l := c.values(f, 200, 20)
		_, e, at := Of(f, l)
		if e != api.OK {
			l = l[:at]
		}
		for range 5 {
			var part []api.Value
			for _, v := range l {
				if c.Intn(3) > 0 {
					part = append(part, v)
				}
			}
			if e := checkOf(t, f, part); e != api.OK {
				t.Fatalf("a part of %v: %d", f, e)
			}
		}
	}
}

// P9.1: the first value with which something is wrong decides.
func TestWrongValues(t *testing.T) {
	c := newChance(4)
	for range 2000 {
		f, g := c.field(), c.field()
		l := c.values(f, c.Intn(6), 3)
		l = append(l, c.values(g, 1+c.Intn(2), 3)...)
		l = append(l, c.values(f, c.Intn(3), 3)...)
		checkOf(t, f, l)
	}
	for _, c := range []struct {
		field string
		l     []api.Value
		e     api.Errno
		at    int
	}{
		{"int8", []api.Value{null}, api.ErrValue, 0},
		{"int8?", []api.Value{null, {Null: true, Num: 1}}, api.ErrValue, 1},
		{"text", []api.Value{text("a"), text("\xc3(")}, api.ErrValue, 1},
		{"text", []api.Value{text("a"), long(65536), text("\xff")}, api.ErrBytes, 1},
		{"text", []api.Value{text("a"), text("\xff"), long(65536)}, api.ErrValue, 1},
		{"text", []api.Value{long(65537)}, api.ErrBytes, 0},
		{"int8", append(times(4096, num(1)), num(128)), api.ErrValue, 4096},
		{"int8", append(times(4096, num(1)), num(127), num(128)), api.ErrRows, 4096},
		{"list(i int8)", []api.Value{list(times(4097, num(1))...)}, api.ErrValue, 0},
		{"choice(a int8)", []api.Value{chosen(0, num(1)), chosen(1, num(1))}, api.ErrValue, 1},
		{"choice(a int8)", []api.Value{null}, api.ErrValue, 0},
		{"span(2, i int8)", []api.Value{list(num(1))}, api.ErrValue, 0},
		{"runs(v int8)", []api.Value{num(1), null}, api.ErrValue, 1},
		{"dict(0, int8, w int8)", []api.Value{null}, api.ErrValue, 0},
	} {
		d, e, at := Of(field(t, c.field), c.l)
		if e != c.e || at != c.at || !isZero(d) {
			t.Errorf("Of(%s): %d, %d, not %d, %d", c.field, e, at, c.e, c.at)
		}
	}
}

// wrongFields are fields that may not be.
func wrongFields(t testing.TB) []api.Field {
	ring := api.Field{Name: "f", Type: api.Type{Kind: api.List, Fields: make([]api.Field, 1)}}
	ring.Type.Fields[0] = ring
	deep := field(t, "int8")
	for range 64 {
		deep = api.Field{Name: "f", Type: api.Type{Kind: api.List, Fields: []api.Field{deep}}}
	}
	nullable := field(t, "choice(a int8)")
	nullable.Nullable = true
	noName := field(t, "int8")
	noName.Name = ""
	return []api.Field{{}, ring, deep, nullable, noName, {Name: "f", Type: api.Type{Kind: api.Null}}, {Name: "f", Type: api.Type{Kind: api.Fixed}},
		{Name: "f", Type: api.Type{Kind: 21}}, {Name: "f", Type: api.Type{Kind: -1}}, {Name: "f", Type: api.Type{Kind: api.Dict, Index: api.Text, Fields: []api.Field{field(t, "int8")}}}}
}

// ErrType stands ahead of all else.
func TestWrongFields(t *testing.T) {
	for i, f := range wrongFields(t) {
		if d, e, at := Of(f, []api.Value{{}, {Null: true, Num: 1}}); e != api.ErrType || at != 0 || !isZero(d) {
			t.Errorf("field %d: Of: %d, %d", i, e, at)
		}
		if d, e := Empty(f); e != api.ErrType || !isZero(d) {
			t.Errorf("field %d: Empty: %d", i, e)
		}
		if d, e := Form(f, api.Data{Length: -1}); e != api.ErrType || !isZero(d) {
			t.Errorf("field %d: Form: %d", i, e)
		}
		if IsForm(f, api.Data{}) {
			t.Errorf("field %d: IsForm", i)
		}
		if b, e := New(f); e != api.ErrType || b != nil {
			t.Errorf("field %d: New: %d", i, e)
		}
		s := api.Schema{Fields: []api.Field{f}}
		if b, e, at := Batch(s, [][]api.Value{{}, {}}); e != api.ErrType || at != 0 || b.Rows != 0 || b.Columns != nil {
			t.Errorf("field %d: Batch: %d, %d", i, e, at)
		}
		if rows, e := Rows(s, api.Batch{Rows: -1}); e != api.ErrType || rows != nil {
			t.Errorf("field %d: Rows: %d", i, e)
		}
	}
}

// P9.1: Empty is Of of nothing.
func TestEmpty(t *testing.T) {
	c := newChance(5)
	for range 500 {
		f := c.field()
		d, e := Empty(f)
		want, _ := modelForm(f, nil)
		if e != api.OK || !modelSame(d, want) || !IsForm(f, d) {
			t.Fatalf("Empty of %v: %s, %d", f, printed(d), e)
		}
	}
}

// Just at each limit, and one beyond it: what is told, and at which value.
func TestLimits(t *testing.T) {
	empty, one := list(), list(num(1))
	for _, c := range []struct {
		field string
		l     []api.Value
		more  api.Value
		e     api.Errno
	}{
		// Rows, of the array itself and of what lies within.
		{"null?", times(4096, null), null, api.ErrRows},
		{"bool", times(4096, num(1)), num(0), api.ErrRows},
		{"fixed(16)", times(4096, long(16)), long(16), api.ErrRows},
		{"fixed(16)?", times(4096, null), null, api.ErrRows},
		{"text?", times(4096, null), null, api.ErrRows},
		{"struct()", times(4096, empty), empty, api.ErrRows},
		{"runs(v int8)", times(4096, num(1)), num(1), api.ErrRows},
		{"runs(v int16)", upTo(4096), num(4096), api.ErrRows},
		{"dict(0, int8, w int8)?", times(4096, null), null, api.ErrRows},
		{"dict(0, int16, w int16)", upTo(4096), num(0), api.ErrRows},
		{"list(i int8)", append(times(4095, one), empty), empty, api.ErrRows},
		{"list(i int8)", []api.Value{list(times(4096, num(1))...), empty}, one, api.ErrRows},
		{"list(i list(j int8))", []api.Value{list(list(times(4096, num(1))...), empty)}, list(empty, one), api.ErrRows},
		{"span(64, i int8)", times(64, list(times(64, num(1))...)), list(times(64, num(1))...), api.ErrRows},
		{"span(64, i int8)?", times(64, null), null, api.ErrRows},
		{"struct(l list(i int8))", []api.Value{list(list(times(4096, num(1))...)), list(empty)}, list(one), api.ErrRows},
		{"choice(a list(i int8), b int8)", []api.Value{chosen(0, list(times(4096, num(1))...)), chosen(0, empty), chosen(1, num(2))}, chosen(0, one), api.ErrRows},
		{"runs(v list(i int8))", times(4, list(times(4096, num(1))...)), one, api.ErrRows},
		{"dict(0, int8, v list(i int8))", times(4, list(times(4096, num(1))...)), one, api.ErrRows},

		// Bytes.
		{"text", []api.Value{long(65535), text("x"), text("")}, text("y"), api.ErrBytes},
		{"bytes?", []api.Value{long(65536), null}, text("\xff"), api.ErrBytes},
		{"list(i text)", []api.Value{list(long(40000), long(25536))}, list(text(""), text("y")), api.ErrBytes},
		{"choice(a text, b text)", []api.Value{chosen(0, long(65536)), chosen(1, long(65536))}, chosen(1, text("y")), api.ErrBytes},
		{"dict(0, int8, w text)", []api.Value{long(65536), long(65536), text("")}, text("y"), api.ErrBytes},
		{"runs(v text)", []api.Value{long(65536), long(65536), text("")}, text("y"), api.ErrBytes},
		{"struct(a text, b dict(0, int8, w text))", []api.Value{list(long(1), long(65536))}, list(long(1), long(2)), api.ErrBytes},

		// Indices.
		{"dict(0, int8, w int16)", upTo(128), num(128), api.ErrIndices},
		{"dict(0, uint8, w int16)", upTo(256), num(-1), api.ErrIndices},
		{"dict(0, uint8, w int16)?", join(upTo(256), []api.Value{null}, upTo(256)), num(256), api.ErrIndices},
		{"list(d dict(0, int8, w int16))", []api.Value{list(upTo(100)...), list(upTo(128)...)}, list(num(5), num(128)), api.ErrIndices},
		// The row of a null Struct has the zero value, which the dictionary doesn't have.
		{"struct(d dict(0, int8, w int16))?", []api.Value{list(num(1)), null}, list(num(2)), api.OK},
	} {
		f := field(t, c.field)
		if e := checkOf(t, f, c.l); e != api.OK {
			t.Errorf("%s: at the limit: %d", c.field, e)
		}
		l := append(c.l[:len(c.l):len(c.l)], c.more)
		_, e, at := Of(f, l)
		if e != c.e || e != api.OK && at != len(c.l) {
			t.Errorf("%s: beyond the limit: %d, %d", c.field, e, at)
		}
		checkOf(t, f, l)
	}
}

// The weight, of the array itself and of what lies within, to the last byte.
func TestWeight(t *testing.T) {
	// A dictionary's text of 1,008 bytes is a row of 1,024: 4096 of them are just as heavy as may be.
	just := times(4096, long(1008))
	heavier := append(append([]api.Value{}, just[:4095]...), long(1009))
	for _, c := range []struct {
		field string
		l     []api.Value
		e     api.Errno
		at    int
	}{
		{"dict(0, int8, w text)", just, api.OK, 0},
		{"dict(0, int8, w text)", heavier, api.ErrRows, 4095},
		{"runs(v text)", just, api.OK, 0},
		{"runs(v text)", heavier, api.ErrRows, 4095},
		{"runs(v dict(0, int8, w text))", just, api.OK, 0},
		{"runs(v dict(0, int8, w text))", heavier, api.ErrRows, 4095},
		{"list(i dict(0, int8, w text))", []api.Value{list(just[:4000]...), list(just[:95]...)}, api.OK, 0},
		{"list(i dict(0, int8, w text))", []api.Value{list(just[:4000]...), list(just[:96]...)}, api.ErrRows, 1},
		{"struct(d dict(0, int8, w text), e int8?)", times(3971, list(long(1008), null)), api.OK, 0},
		{"struct(d dict(0, int8, w text), e int8?)", times(3972, list(long(1008), null)), api.ErrRows, 3971},
		// A null weighs 16, whatever zero values lie within.
		{"struct(d dict(0, int8, w text), e fixed(16)?)", times(3971, list(long(1008), null)), api.OK, 0},
		{"struct(d dict(0, int8, w text), e span(1, i int8)?)", times(3971, list(long(1008), null)), api.OK, 0},
		{"struct(d dict(0, int8, w text), e struct(a int8)?)", times(3971, list(long(1008), null)), api.OK, 0},
		{"struct(d dict(0, int8, w text), e dict(1, int8, w text)?)", times(3971, list(long(1008), null)), api.OK, 0},
		{"struct(d dict(0, int8, w text), e runs(v text?)?)", times(3971, list(long(1008), null)), api.OK, 0},
		{"struct(d dict(0, int8, w text), e fixed(16))", times(3912, list(long(1008), long(16))), api.OK, 0},
		{"struct(d dict(0, int8, w text), e fixed(16))", times(3913, list(long(1008), long(16))), api.ErrRows, 3912},
		{"choice(d dict(0, int8, w text))", times(4032, chosen(0, long(1008))), api.OK, 0},
		{"choice(d dict(0, int8, w text))", times(4033, chosen(0, long(1008))), api.ErrRows, 4032},
	} {
		f := field(t, c.field)
		if _, e, at := Of(f, c.l); e != c.e || at != c.at {
			t.Errorf("%s, %d values: %d, %d, not %d, %d", c.field, len(c.l), e, at, c.e, c.at)
		}
		checkOf(t, f, c.l)
	}
}

// Of several limits the one that is met first is told: what lies within takes in its part one by one, and the weight is looked at behind all of it.
func TestFirstLimit(t *testing.T) {
	full := upTo(129)[1:] // all that a dictionary with indices of Int8 holds, without 0
	d := "d dict(0, int8, w int32)"
	for _, c := range []struct {
		field string
		l     []api.Value
		e     api.Errno
	}{
		{"struct(" + d + ", t text)", []api.Value{list(num(0), long(65537))}, api.ErrBytes},
		{"list(s struct(t text, " + d + "))", []api.Value{list(join(wrapped(full, text("")), []api.Value{list(long(65537), num(0))})...)}, api.ErrBytes},
		{"list(s struct(" + d + ", t text))", []api.Value{list(join(swapped(full, text("")), []api.Value{list(num(0), long(65537))})...)}, api.ErrIndices},
		// The items' rows stand ahead of what the last of them has within.
		{"list(t text)", []api.Value{list(join(times(4095, text("")), []api.Value{long(65537)})...)}, api.ErrBytes},
		{"list(t text)", []api.Value{list(join(times(4096, text("")))...), list(long(65537))}, api.ErrRows},
		// The dictionary is full ahead of taking in a text that is too long.
		{"dict(0, int8, w bytes)", append(bytesUpTo(128), long(65537)), api.ErrIndices},
		{"dict(0, int8, w bytes)", append(bytesUpTo(127), long(65537)), api.ErrBytes},
		// It takes in a value ahead of the weight's being looked at.
		{"dict(0, int8, w text)", append(times(4095, long(1008)), long(64529)), api.ErrBytes},
		{"dict(0, int8, w text)", append(times(4095, long(1008)), long(64528)), api.ErrRows},
		{"runs(v text)", append(times(4095, long(1008)), long(64529)), api.ErrBytes},
		{"runs(v text)", append(times(4095, long(1008)), long(64528)), api.ErrRows},
		// Zero values are taken in as all others.
		{"struct(" + d + ", s span(64, i span(64, j span(64, k int8))))?", join(nil, []api.Value{null}), api.ErrRows},
		{"list(x struct(" + d + ", s span(64, i int8?))?)", []api.Value{list(times(65, null)...)}, api.ErrRows},
	} {
		f := field(t, c.field)
		_, e, at := Of(f, c.l)
		if e != c.e || at != len(c.l)-1 {
			t.Errorf("%s: %d, %d, not %d, %d", c.field, e, at, c.e, len(c.l)-1)
		}
	}
}

// wrapped is structs of a value, and each of the others behind it; swapped the other way round.
func wrapped(l []api.Value, first api.Value) []api.Value {
	var all []api.Value
	for _, v := range l {
		all = append(all, list(first, v))
	}
	return all
}

func swapped(l []api.Value, last api.Value) []api.Value {
	var all []api.Value
	for _, v := range l {
		all = append(all, list(v, last))
	}
	return all
}

// bytesUpTo is so many texts of one byte.
func bytesUpTo(n int) []api.Value {
	var l []api.Value
	for i := range n {
		l = append(l, text(string([]byte{byte(i)})))
	}
	return l
}

// Zero values that could not be made meet a limit soon, the one that comes first.
func TestHeavyZeros(t *testing.T) {
	heavy := "span(64, i span(64, j span(64, k int8)))"
	deep := "int8"
	for range 60 {
		deep = "span(64, i " + deep + ")"
	}
	wide := "struct(a0 fixed(16)"
	for i := 1; i < 32; i++ {
		wide += ", a" + strconv.Itoa(i) + " fixed(16)"
	}
	wide += ")"
	full := upTo(129)[1:]
	for _, c := range []struct {
		field string
		l     []api.Value
		e     api.Errno
	}{
		{heavy + "?", []api.Value{null}, api.ErrRows},
		{"struct(a " + heavy + ")?", []api.Value{null}, api.ErrRows},
		{"struct(a " + deep + ")?", []api.Value{null}, api.ErrRows},
		{"struct(a list(i " + deep + "))?", []api.Value{null}, api.OK},
		{"struct(a dict(0, int8, w " + heavy + "))?", []api.Value{null}, api.ErrRows},
		{"struct(a dict(0, int8, w choice(x int8, y " + heavy + ")))?", []api.Value{null}, api.OK},
		{"struct(a runs(v " + heavy + "))?", []api.Value{null}, api.ErrRows},
		{"struct(a runs(v runs(w " + heavy + ")))?", []api.Value{null}, api.ErrRows},
		{"struct(a choice(x " + heavy + ", y int8))?", []api.Value{null}, api.ErrRows},
		// No array has too many rows, but one of them is too heavy.
		{"struct(a span(64, i span(64, j " + wide + ")))?", []api.Value{null}, api.ErrRows},
		{"struct(a span(64, i span(62, j " + wide + ")))?", []api.Value{null}, api.OK},
		// 64 Spans of 63 of these are just as heavy as may be; what has them within is heavier.
		{"span(64, i span(63, j " + wide + "))?", []api.Value{null}, api.OK},
		{"struct(a span(64, i span(63, j " + wide + ")))?", []api.Value{null}, api.ErrRows},
		{"span(64, i struct(a span(63, j " + wide + ")))?", []api.Value{null}, api.ErrRows},
		{"span(64, i choice(a span(63, j " + wide + ")))?", []api.Value{null}, api.ErrRows},
		// A dictionary that is full has no number for a zero value either.
		{"list(s struct(d dict(0, int8, w int16), h " + heavy + ")?)", []api.Value{list(null)}, api.ErrRows},
		{"struct(l list(s struct(d dict(0, int8, w int16))?), h int8)", []api.Value{list(list(wrappedOne(full)...), num(1)), list(list(null), num(1))}, api.ErrIndices},
		{"struct(l list(s struct(d dict(0, int8, w int16))), h struct(x int8)?)", []api.Value{list(list(wrappedOne(full)...), null)}, api.OK},
	} {
		f := field(t, c.field)
		_, e, at := Of(f, c.l)
		if e != c.e || e != api.OK && at != len(c.l)-1 {
			t.Errorf("%.60s: %d, %d, not %d", c.field, e, at, c.e)
		}
	}
}

// A run's zero value that is too heavy to be made is refused by what lies within, in its order.
func TestHeavyZeroOfRuns(t *testing.T) {
	d, h := "d dict(0, int8, w int16)", "h choice(p span(64, i span(64, j span(64, k int8))), q int8)"
	for within, want := range map[string]api.Errno{d + ", " + h: api.ErrIndices, h + ", " + d: api.ErrRows} {
		f := field(t, "struct(r runs(v runs(w struct("+within+"))))?")
		var l []api.Value
		for i := range 128 {
			parts := []api.Value{num(int64(i + 1)), chosen(1, num(0))}
			if want == api.ErrRows {
				parts[0], parts[1] = parts[1], parts[0]
			}
			l = append(l, list(list(parts...)))
		}
		if _, e, at := Of(f, append(l, null)); e != want || at != 128 {
			t.Errorf("%s: %d, %d", within, e, at)
		}
		if _, e, at := Of(f, append(l[:127], null)); e != api.ErrRows || at != 127 {
			t.Errorf("%s, one less: %d, %d", within, e, at)
		}
	}
}

// wrappedOne is structs of one value each.
func wrappedOne(l []api.Value) []api.Value {
	var all []api.Value
	for _, v := range l {
		all = append(all, list(v))
	}
	return all
}

// A dictionary whose zero value is too heavy to be made: full of others it has no number left for it; else its values refuse it.
func TestHeavyZeroOfDictionary(t *testing.T) {
	f := field(t, "struct(d dict(0, int8, w choice(x span(64, i span(64, j span(64, k int8))), y int16)))?")
	var l []api.Value
	for i := range 128 {
		l = append(l, list(chosen(1, num(int64(i)))))
	}
	for n, want := range map[int]api.Errno{0: api.ErrRows, 1: api.ErrRows, 127: api.ErrRows, 128: api.ErrIndices} {
		if _, e, at := Of(f, append(l[:n:n], null)); e != want || at != n {
			t.Errorf("behind %d values: %d, %d", n, e, at)
		}
	}
}

// Values whose hashes are the same are held against each other.
func TestSameHash(t *testing.T) {
	a, b := num(3198783724751129639), num(-1880566314877556451)
	if value.Hash(a) != value.Hash(b) {
		t.Fatal("the hashes are unlike")
	}
	f := field(t, "dict(0, int8, w int64)")
	for _, l := range [][]api.Value{{a, b}, {b, a, b, a}, {a, num(1), b, b, a}} {
		checkOf(t, f, l)
	}
	// Taken back, the one leaves the other where it is.
	g := field(t, "struct(d dict(0, int8, w int64), t text)")
	m, _ := New(g)
	for _, x := range []api.Value{list(a, text("")), list(b, long(65537)), list(a, text("")), list(b, text(""))} {
		m.Add(x)
	}
	d, e := m.Done()
	if want, _ := modelForm(g, []api.Value{list(a, text("")), list(a, text("")), list(b, text(""))}); e != api.OK || !modelSame(d, want) {
		t.Errorf("Done: %s, %d", printed(d), e)
	}
}

// P9.2, P9.6: Form of an array, however it lies, is Of of what it denotes.
func TestForm(t *testing.T) {
	c := newChance(6)
	forms := 0
	for range 3000 {
		f := c.field()
		d := c.array(f, c.Intn(12))
		l := denoted(t, f, d)
		want, ok := modelForm(f, l)
		x, e := Form(f, d)
		if e != api.OK || !ok || !modelSame(x, want) {
			t.Fatalf("Form of %s of %v: %s, %d", printed(d), f, printed(x), e)
		}
		if is := IsForm(f, d); is != modelSame(d, want) {
			t.Fatalf("IsForm of %s of %v: %v", printed(d), f, is)
		} else if is {
			forms++
		}
		if y, e := Form(f, x); e != api.OK || !modelSame(x, y) || !IsForm(f, x) {
			t.Fatalf("Form of a form of %v: %s, %d", f, printed(y), e)
		}
	}
	if forms < 50 {
		t.Errorf("%d forms", forms)
	}
}

// P9.2: what is no array is told as array.Check tells it.
func TestFormOfNoArray(t *testing.T) {
	c := newChance(7)
	wrong := 0
	for range 3000 {
		f := c.field()
		d := c.array(f, c.Intn(8))
		if c.Intn(2) == 0 {
			d, _ = modelForm(f, c.values(f, c.Intn(8), 3))
		}
		c.hurt(&d)
		want := array.Check(f, d).Err
		x, e := Form(f, d)
		if want == api.OK {
			continue
		}
		wrong++
		if e != want || !isZero(x) || IsForm(f, d) {
			t.Fatalf("Form of %v of %v: %d, not %d", d, f, e, want)
		}
	}
	if wrong < 500 {
		t.Errorf("%d were wrong", wrong)
	}
}

// P9.2: an array that isn't in build form by one thing alone.
func TestIsFormOfNearlyOne(t *testing.T) {
	f := field(t, "list(s struct(a text?, d dict(0, int16, w int8)?))?")
	l := values(t, f, `[{a:"x",d:5},{a:null,d:null}]`, "null", `[{a:"y",d:5}]`)
	form, _, _ := Of(f, l)
	if !IsForm(f, form) {
		t.Fatal("the form is none")
	}
	for i, do := range []func(d *api.Data){
		func(d *api.Data) { d.Buffers[0][0] |= 8 },
		func(d *api.Data) { d.Buffers[0] = append(d.Buffers[0], 0) },
		func(d *api.Data) { d.Buffers[1] = append(d.Buffers[1], 0) },
		func(d *api.Data) {
			d.Children[0].Children[0].Buffers[2] = append(d.Children[0].Children[0].Buffers[2], 'z')
		},
		func(d *api.Data) { d.Children[0].Children[1].Buffers[1][2] = 9 }, // the index of a null
		func(d *api.Data) { d.Children[0].Buffers[0] = []byte{7} },
		func(d *api.Data) { // a row more in the dictionary, and the same number twice there
			x := &d.Children[0].Children[1].Dict[0]
			x.Length, x.Buffers[1] = 2, []byte{5, 5}
		},
		func(d *api.Data) { d.Length, d.Nulls = 1, 0 },
		func(d *api.Data) { d.Length, d.Offset = 2, 1 },
	} {
		d := copiedData(form)
		do(&d)
		if x := array.Check(f, d); x.Err != api.OK {
			t.Errorf("change %d: no array: %v", i, x)
		}
		if IsForm(f, d) {
			t.Errorf("change %d: it is taken for a form", i)
		}
	}
	nils := copiedData(form)
	nils.Dict, nils.Children[0].Children[0].Children = []api.Data{}, []api.Data{}
	if !IsForm(f, nils) {
		t.Error("a list without elements may be nil or not")
	}
}

// P9.2: what an array denotes can be too much to be built, as its rows may be named again and again.
func TestFormIsRefused(t *testing.T) {
	// A choice whose rows name one list of 100 items: 40 of them have 4,000 items, 41 more than may be.
	f := field(t, "choice(a list(i int8))")
	items := api.Data{Length: 100, Buffers: [][]byte{nil, make([]byte, 100)}}
	child := api.Data{Length: 1, Buffers: [][]byte{nil, modelInts(4, 0, 100)}, Children: []api.Data{items}}
	for n, want := range map[int]api.Errno{40: api.OK, 41: api.ErrRows} {
		d := api.Data{Length: n, Buffers: [][]byte{make([]byte, n), make([]byte, 4*n)}, Children: []api.Data{child}}
		x, e := Form(f, d)
		if e != want || e != api.OK && !isZero(x) || IsForm(f, d) {
			t.Errorf("Form of %d rows: %d", n, e)
		}
	}
	// One whose rows name one long text.
	g := field(t, "choice(a text)")
	long := api.Data{Length: 1, Buffers: [][]byte{nil, modelInts(4, 0, 40000), make([]byte, 40000)}}
	d := api.Data{Length: 2, Buffers: [][]byte{{0, 0}, make([]byte, 8)}, Children: []api.Data{long}}
	if _, e := Form(g, d); e != api.ErrBytes {
		t.Errorf("Form of a long text: %d", e)
	}
	// A dictionary within a choice's child keeps its numbers: the same values again need none.
	h := field(t, "choice(a dict(0, int8, w int16))")
	if e := checkOf(t, h, []api.Value{chosen(0, num(1)), chosen(0, num(1))}); e != api.OK {
		t.Errorf("Of: %d", e)
	}
}
