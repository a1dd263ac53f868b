package dict

import (
	"strconv"
	"testing"

	"colonnade/api"
	"colonnade/array"
	"colonnade/build"
)

// wrongValue makes values of which one doesn't fit.
func (c *chance) wrongValue(l []api.Value) []api.Value {
	bad := []api.Value{{Null: true}, {Num: 1, Text: "x"}, {Text: "\xff", List: []api.Value{{}}}, {Null: true, Num: 1}}
	l = append(l, bad[c.Intn(len(bad))])
	i := c.Intn(len(l))
	l[i], l[len(l)-1] = l[len(l)-1], l[i]
	return l
}

// trial is a book and its model, to which the same is done.
type trial struct {
	*chance
	b    *Book
	m    *model
	hows map[int]int       // how often it was told how
	errs map[api.Errno]int // how often an error was met
}

// P10.1, P10.4: a book in any order of calls, held against the model; arrays lie anyhow.
func TestAnyOrder(t *testing.T) {
	r := &trial{chance: newChance(1), hows: map[int]int{}, errs: map[api.Errno]int{}}
	for range 150 {
		s := r.schema()
		b, e := Open(s)
		if e != api.OK {
			t.Fatalf("Open(%v): %d", s, e)
		}
		r.b, r.m = b, newModel(s)
		for range 25 {
			r.step(t)
			r.m.hold(t, r.b)
		}
	}
	for _, how := range []int{Nothing, New, Anew} {
		if r.hows[how] < 200 {
			t.Errorf("%d was told %d times", how, r.hows[how])
		}
	}
	for _, e := range []api.Errno{api.ErrRows, api.ErrValue, api.ErrNoDict, api.ErrID, api.ErrIndices, api.ErrLength, api.ErrShape} {
		if r.errs[e] < 10 {
			t.Errorf("the error %d was met %d times", e, r.errs[e])
		}
	}
}

// number tells a number, mostly one of the first two that the schema has, and a field of which values are made.
func (r *trial) number() (int, api.Field) {
	id := r.Intn(35) - 1
	if ids := r.m.ids(); len(ids) > 0 && r.Intn(8) > 0 {
		id = ids[r.Intn(min(len(ids), 2))]
	}
	if f, ok := r.m.fields[id]; ok {
		return id, f.Type.Fields[0]
	}
	return id, api.Field{Name: "a", Type: api.Type{Kind: api.Text}}
}

// step makes any call.
func (r *trial) step(t *testing.T) {
	t.Helper()
	id, f := r.number()
	l := r.values(f, []int{6, 6, 20, 90, 200}[r.Intn(5)], []int{3, 3, 30, 700}[r.Intn(4)])
	switch r.Intn(12) {
	case 0:
		r.array(t, id, f, l, false)
	case 1, 2:
		r.array(t, id, f, l, true)
	case 3:
		r.parts(t, id, l)
	default:
		if r.Intn(12) == 0 {
			l = r.wrongValue(l)
		}
		how, e := r.m.asks(t, r.b, id, l, r.Intn(2) == 0)
		r.hows[how]++
		r.errs[e]++
	}
}

// array makes an array a dictionary, or lays it behind one.
func (r *trial) array(t *testing.T, id int, f api.Field, l []api.Value, grow bool) {
	t.Helper()
	d, ok := r.lying(f, l)
	if !ok {
		return
	}
	if r.Intn(6) == 0 {
		d = r.hurt(d)
	}
	lay := r.b.Replace
	if grow {
		lay = r.b.Grow
	}
	want := r.m.put(id, d, grow)
	if e := lay(id, d); e != want {
		t.Fatalf("an array, %v: %d, not %d", grow, e, want)
	}
	r.errs[want]++
}

// parts goes on with a copy of the book, or with the book itself: the other one doesn't see it.
func (r *trial) parts(t *testing.T, id int, l []api.Value) {
	t.Helper()
	other, was := r.b.Copy(), r.m.copy()
	if r.Intn(2) == 0 {
		r.b, other = other, r.b
	}
	r.m.asks(t, r.b, id, l, true)
	was.hold(t, other)
}

// P10.2: who listens knows the same, and finds each value at its place; P10.3: what was told need not be told again.
func TestListens(t *testing.T) {
	c := newChance(2)
	for range 200 {
		s := c.schema()
		teller, _ := Open(s)
		hears, _ := Open(s)
		ids := teller.IDs()
		for range 15 {
			if len(ids) == 0 {
				break
			}
			id := ids[c.Intn(min(len(ids), 2))]
			f, _ := teller.Field(id)
			if d, ok := c.lying(f, c.values(f, 9, 3)); ok && c.Intn(6) == 0 {
				teller.Replace(id, d)
				hears.Replace(id, d)
			}
			l := c.values(f, []int{6, 20, 150}[c.Intn(3)], []int{3, 200}[c.Intn(2)])
			d, how, places, e := teller.Tell(id, l, c.Intn(2) == 0)
			if e != api.OK {
				continue
			}
			heard(t, hears, id, d, how)
			alike(t, teller, hears)
			at(t, hears, id, l, places)
			spared(t, teller, id, l)
		}
	}
}

// heard tells a book what another one told.
func heard(t *testing.T, b *Book, id int, d api.Data, how int) {
	t.Helper()
	e := api.Errno(api.OK)
	switch how {
	case Anew:
		e = b.Replace(id, d)
	case New:
		e = b.Grow(id, d)
	}
	if e != api.OK {
		t.Fatalf("who listens refuses what is told (%d): %d", how, e)
	}
}

// alike looks whether two books know the same.
func alike(t *testing.T, a, b *Book) {
	t.Helper()
	x, y := a.Told(), b.Told()
	if len(x) != len(y) {
		t.Fatalf("one knows %d, the other one %d", len(x), len(y))
	}
	for i := range x {
		if x[i].ID != y[i].ID || !sameData(x[i].Values, y[i].Values) {
			t.Fatalf("one knows %d rows of %d, the other one %d of %d", x[i].Values.Length, x[i].ID, y[i].Values.Length, y[i].ID)
		}
	}
}

// at looks whether values stand at their places.
func at(t *testing.T, b *Book, id int, l []api.Value, places []int) {
	t.Helper()
	f, _ := b.Field(id)
	d, _ := b.Get(id)
	a, x := array.Open(f, d)
	if x.Err != api.OK || len(places) != len(l) {
		t.Fatalf("%d: %v; %d places of %d", id, x, len(places), len(l))
	}
	for i, k := range places {
		if v, e := a.Get(k); e != api.OK || !same(v, l[i]) {
			t.Fatalf("at %d stands %v, not %v", k, v, l[i])
		}
	}
}

// spared looks whether nothing is told of values that were told: all of them, each alone, the other way round.
func spared(t *testing.T, b *Book, id int, l []api.Value) {
	t.Helper()
	var turned []api.Value
	for i := range l {
		turned = append(turned, l[len(l)-1-i])
	}
	for _, again := range [][]api.Value{l, turned, l[len(l)/2:], l[:len(l)/2], nil} {
		for _, delta := range []bool{true, false} {
			if d, how, p, e := b.Tell(id, again, delta); e != api.OK || how != Nothing || d.Length != 0 || len(p) != len(again) {
				t.Fatalf("told again: %d, %d rows, %d", how, d.Length, e)
			}
		}
	}
}

func TestOpen(t *testing.T) {
	for _, text := range []string{"", "a int8, l list(i text)", `| "k" "t"`} {
		b := opened(t, text)
		if l := b.IDs(); len(l) != 0 {
			t.Errorf("IDs of %q: %v", text, l)
		}
		if l := b.Told(); len(l) != 0 {
			t.Errorf("Told of %q: %v", text, l)
		}
		if _, e := b.Field(0); e != api.ErrID {
			t.Errorf("Field of %q: %d", text, e)
		}
	}
	dict := api.Field{Name: "d", Type: api.Type{Kind: api.Dict, Index: api.Int8, Fields: []api.Field{{Name: "v", Type: api.Type{Kind: api.Text}}}}}
	twice, nullable, index, ids := dict, dict, dict, dict
	twice.Name = "e"
	nullable.Type.Fields = []api.Field{{Name: "v", Nullable: true, Type: api.Type{Kind: api.Text}}}
	index.Type.Index = api.Text
	ids.Type.ID = 32
	ring := []api.Field{{Name: "l", Type: api.Type{Kind: api.List}}}
	ring[0].Type.Fields = ring
	for i, l := range [][]api.Field{{dict, dict}, {dict, twice}, {nullable}, {index}, {ids}, ring, {{Name: "x"}}} {
		if b, e := Open(api.Schema{Fields: l}); b != nil || e != api.ErrType {
			t.Errorf("Open of the wrong schema %d: %d", i, e)
		}
	}
	if b, e := Open(api.Schema{Notes: make([]api.Note, 17)}); b != nil || e != api.ErrType {
		t.Errorf("Open with too many notes: %d", e)
	}
}

// All numbers that may be, at any depth, rising; the field of each is its own child.
func TestAllNumbers(t *testing.T) {
	text := ""
	for i := range 32 {
		id := strconv.Itoa((i*7 + 5) % 32)
		one := "dict(" + id + ", uint16, v" + id + " fixed(" + strconv.Itoa(1+i%16) + "))"
		text += []string{"", ", "}[min(i, 1)] + "f" + id + " " + []string{one, "list(a list(b " + one + "))", "runs(r " + one + ")", "struct(x int8, y " + one + ")"}[i%4]
	}
	b := opened(t, text)
	if l := b.IDs(); !sameInts(l, upTo(32)) {
		t.Errorf("IDs: %v", l)
	}
	for i := range 32 {
		id := (i*7 + 5) % 32
		f, e := b.Field(id)
		if e != api.OK || f.Name != "v"+strconv.Itoa(id) || f.Type.Kind != api.Fixed || f.Type.Width != 1+i%16 || f.Nullable {
			t.Errorf("Field(%d): %v, %d", id, f, e)
		}
		if _, how, _, e := b.Tell(id, texts(long("", 1+i%16)), false); how != Anew || e != api.OK {
			t.Errorf("Tell(%d): %d, %d", id, how, e)
		}
	}
	told := b.Told()
	for id := range 32 {
		if len(told) != 32 || told[id].ID != id || told[id].Values.Length != 1 {
			t.Fatalf("Told: %v", told)
		}
	}
}

// Numbers that a schema has not, whatever else is wrong.
func TestNoSuchNumber(t *testing.T) {
	b := opened(t, example)
	good, bad := formed(t, fieldOf(t, b, 3), texts("a")), api.Data{Length: -1}
	for _, id := range []int{-1, 0, 2, 4, 31, 32, -1 << 63, 1<<63 - 1} {
		for _, d := range []api.Data{good, bad} {
			if e := b.Replace(id, d); e != api.ErrID {
				t.Errorf("Replace(%d): %d", id, e)
			}
			if e := b.Grow(id, d); e != api.ErrID {
				t.Errorf("Grow(%d): %d", id, e)
			}
		}
		for _, l := range [][]api.Value{nil, texts("a"), {{Null: true}}, make([]api.Value, 4097)} {
			if d, how, p, e := b.Tell(id, l, true); e != api.ErrID || how != Nothing || p != nil || !isZero(d) {
				t.Errorf("Tell(%d): %d", id, e)
			}
		}
		if d, e := b.Get(id); e != api.ErrID || !isZero(d) {
			t.Errorf("Get(%d): %d", id, e)
		}
		if f, e := b.Field(id); e != api.ErrID || f.Name != "" || f.Type.Kind != 0 || f.Type.Fields != nil {
			t.Errorf("Field(%d): %v, %d", id, f, e)
		}
		if b.Len(id) != -1 {
			t.Errorf("Len(%d): %d", id, b.Len(id))
		}
	}
	newModel(schema(t, example)).hold(t, b)
}

// Of several errors the one that the chapter names first; with each of them nothing has changed.
func TestWhichError(t *testing.T) {
	s := schema(t, "d dict(3, int16, v text), e dict(0, int8, w text)")
	b, _ := Open(s)
	m := newModel(s)
	f := fieldOf(t, b, 3)
	bad := formed(t, f, texts("a", "b"))
	bad.Buffers[1][4] = 9
	if e := b.Grow(3, bad); e != api.ErrNoDict {
		t.Errorf("Grow of none: %d", e)
	}
	if e := b.Replace(3, bad); e != api.ErrOffsets {
		t.Errorf("Replace: %d", e)
	}
	m.hold(t, b)

	// 4,090 values of 60,000 bytes: ten more are too many rows, though the first one of them is too many bytes.
	var l []string
	for i := range 4090 {
		l = append(l, long(strconv.Itoa(i), 14+min(i/1350, 1)))
	}
	full := formed(t, f, texts(l...))
	if e := b.Replace(3, full); e != api.OK || m.put(3, full, false) != api.OK {
		t.Fatalf("Replace: %d", e)
	}
	ten := append([]string{long("", 10000)}, numbered(0, 9)...)
	if _, e, at := build.Of(f, texts(append(l, ten...)...)); e != api.ErrBytes || at != 4090 {
		t.Fatalf("the test itself: %d at %d", e, at)
	}
	for _, c := range []struct {
		d    api.Data
		want api.Errno
	}{
		{formed(t, f, texts(ten...)), api.ErrRows},
		{formed(t, f, texts(ten[:6]...)), api.ErrBytes},
		{bad, api.ErrOffsets},
		{api.Data{Length: 4097}, api.ErrShape},
	} {
		if e := b.Grow(3, c.d); e != c.want {
			t.Errorf("Grow: %d, not %d", e, c.want)
		}
		m.hold(t, b)
	}
	if e := b.Grow(3, formed(t, f, texts(numbered(0, 6)...))); e != api.OK || b.Len(3) != 4096 {
		t.Errorf("Grow: %d, Len %d", e, b.Len(3))
	}
	if e := b.Grow(3, formed(t, f, nil)); e != api.OK || b.Len(3) != 4096 {
		t.Errorf("Grow by nothing: %d, Len %d", e, b.Len(3))
	}

	many := make([]api.Value, 4097)
	many[5].Null = true
	if _, _, _, e := b.Tell(0, many, true); e != api.ErrRows {
		t.Errorf("Tell of too many: %d", e)
	}
	if _, _, _, e := b.Tell(0, many[:4096], true); e != api.ErrValue {
		t.Errorf("Tell of a null: %d", e)
	}
	// More than the indices have numbers, and behind them one that doesn't fit.
	if _, _, _, e := b.Tell(0, append(texts(numbered(0, 129)...), num(1)), true); e != api.ErrValue || b.Len(0) != -1 {
		t.Errorf("Tell of one that doesn't fit: %d", e)
	}
	if _, _, p, e := b.Tell(0, make([]api.Value, 4096), true); e != api.OK || len(p) != 4096 || b.Len(0) != 1 {
		t.Errorf("Tell of 4096 that are the same: %d, %d places", e, len(p))
	}
}

// What an array denotes can be too much to be built: rows of a choice that are named again and again.
func TestCantBeBuilt(t *testing.T) {
	s := schema(t, "d dict(0, int16, v choice(a list(i int8), b text))")
	b, _ := Open(s)
	m := newModel(s)
	f := fieldOf(t, b, 0)
	once := formed(t, f, []api.Value{chosen(0, list(from(0, 100)...)), chosen(1, texts(long("", 5000))[0])})
	again := func(code byte, n int) api.Data {
		d := once
		d.Length = n
		d.Buffers = [][]byte{make([]byte, n), make([]byte, 4*n)}
		for i := range n {
			d.Buffers[0][i] = code
		}
		return d
	}
	for _, c := range []struct {
		d    api.Data
		grow bool
		want api.Errno
	}{
		{again(0, 41), false, api.ErrRows},
		{again(1, 14), false, api.ErrBytes},
		{again(0, 30), false, api.OK},
		{again(0, 11), true, api.ErrRows},
		{again(0, 41), true, api.ErrRows},
		{again(1, 14), true, api.ErrBytes},
		{again(0, 10), true, api.OK},
		{again(1, 13), true, api.OK},
		{again(1, 1), true, api.ErrBytes},
		{again(0, 41), false, api.ErrRows},
		{again(1, 13), false, api.OK},
	} {
		if x := array.Check(f, c.d); x.Err != api.OK {
			t.Fatalf("the test itself: %v", x)
		}
		lay := b.Replace
		if c.grow {
			lay = b.Grow
		}
		if e := lay(0, c.d); e != c.want {
			t.Errorf("%d rows of %d: %d, not %d", c.d.Length, c.d.Buffers[0][0], e, c.want)
		}
		if e := m.put(0, c.d, c.grow); e != c.want {
			t.Fatalf("the test itself: %d, not %d", e, c.want)
		}
		m.hold(t, b)
	}
}
