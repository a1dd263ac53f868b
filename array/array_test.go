package array

import (
	"bytes"
	"math"
	"reflect"
	"slices"
	"sync"
	"testing"
	"time"

	"colonnade/api"
	"colonnade/view"
)

func sameValue(a, b api.Value) bool {
	return a.Null == b.Null && a.Num == b.Num && a.Text == b.Text && slices.EqualFunc(a.List, b.List, sameValue)
}

func sameField(a, b api.Field) bool {
	x, y := a.Type, b.Type
	return a.Name == b.Name && a.Nullable == b.Nullable && x.Kind == y.Kind && x.Width == y.Width && x.ID == y.ID && x.Index == y.Index && slices.EqualFunc(x.Fields, y.Fields, sameField)
}

func sameData(a, b api.Data) bool {
	return a.Length == b.Length && a.Offset == b.Offset && a.Nulls == b.Nulls && slices.EqualFunc(a.Buffers, b.Buffers, bytes.Equal) &&
		slices.EqualFunc(a.Children, b.Children, sameData) && slices.EqualFunc(a.Dict, b.Dict, sameData)
}

// looked is what an Array is by the chapter: rows of an array that was handed in, whose bytes it looks at.
type looked struct {
	f        api.Field
	d        api.Data
	first, n int
}

func (m looked) row(i int) spot { return spot{m.f, m.d, m.first + i} }

// get is what Get tells.
func (m looked) get(i int) (api.Value, api.Errno) {
	if i < 0 || i >= m.n {
		return api.Value{}, api.ErrRange
	}
	v, ok := modelRow(m.row(i))
	if !ok {
		return api.Value{}, api.ErrValue
	}
	return v, api.OK
}

// part is what Num and Text tell, as a value.
func (m looked) part(i int, kinds ...int) (api.Value, api.Errno) {
	t := m.f.Type
	for t.Kind == api.Dict || t.Kind == api.Runs {
		t = t.Fields[0].Type
	}
	if !slices.Contains(kinds, t.Kind) {
		return api.Value{}, api.ErrType
	}
	v, e := m.get(i)
	if e == api.OK && v.Null {
		return api.Value{}, api.ErrValue
	}
	return v, e
}

// null is what Null tells.
func (m looked) null(i int) (bool, api.Errno) {
	if i < 0 || i >= m.n {
		return false, api.ErrRange
	}
	null, ok := modelNull(m.row(i))
	if !ok {
		return false, api.ErrValue
	}
	return null, api.OK
}

// items is what Items tells.
func (m looked) items(i int) (looked, api.Errno) {
	k := m.f.Type.Kind
	if k != api.List && k != api.Span {
		return looked{}, api.ErrType
	}
	if i < 0 || i >= m.n {
		return looked{}, api.ErrRange
	}
	r := m.d.Offset + m.first + i
	if modelOff(m.f, m.d, r) {
		return looked{}, api.ErrValue
	}
	p, n, child := r*m.f.Type.Width, m.f.Type.Width, m.d.Children[0]
	if k == api.List {
		from, to, ok := modelBounds(m.d.Buffers[1], r, child.Length)
		if !ok {
			return looked{}, api.ErrValue
		}
		p, n = from, to-from
	}
	return looked{m.f.Type.Fields[0], child, p, n}, api.OK
}

// child is what Child tells.
func (m looked) child(k int) (looked, api.Errno) {
	fields, parts := modelParts(m.f, m.d)
	if k < 0 || k >= len(parts) {
		return looked{}, api.ErrRange
	}
	if m.f.Type.Kind == api.Struct {
		return looked{fields[k], parts[k], m.d.Offset + m.first, m.n}, api.OK
	}
	return looked{fields[k], parts[k], 0, parts[k].Length}, api.OK
}

// values is what All gives.
func (m looked) values() []api.Value {
	var l []api.Value
	weight := 0
	for i := range m.n {
		v, e := m.get(i)
		weight += modelWeight(v)
		if e != api.OK || weight > 4194304 {
			break
		}
		l = append(l, v)
	}
	return l
}

// data is what Data tells.
func (m looked) data() api.Data {
	d := copiedData(m.d)
	d.Length, d.Offset = m.n, m.d.Offset+m.first
	d.Nulls = modelNulls(m.f, m.d, d.Offset, d.Length)
	return d
}

// farNumbers are numbers that are no row of any array.
var farNumbers = []int{math.MinInt, -5000, -1, 5000, 1 << 32, math.MaxInt - 1, math.MaxInt}

// ask holds what an array tells of itself against the model.
type ask struct {
	*testing.T
	c    *chance
	seed int64
	most int // bytes of the longest buffer
}

func (k ask) must(ok bool, what string, more ...any) {
	k.Helper()
	if !ok {
		k.Fatalf("seed %d: %s %v", k.seed, what, more)
	}
}

// cheap asks one call of a row with a watch, and holds what is read against the row's cost.
func (k ask) cheap(a *Array, m looked, i int, call func(a *Array)) {
	k.Helper()
	w := view.NewWatch()
	call(a.Watched(w))
	k.inside(w)
	if _, e := m.get(i); e != api.OK {
		return
	}
	sum := 0
	for _, r := range w.Reads() {
		sum += r.To - r.From
	}
	k.must(sum <= modelCost(m.row(i)), "more was read than the row costs", i, sum)
}

// inside looks whether all reads lie within a buffer.
func (k ask) inside(w *view.Watch) {
	k.Helper()
	for _, r := range w.Reads() {
		k.must(r.From >= 0 && r.From < r.To && r.To <= k.most, "read", r)
	}
}

// row asks all of one row.
func (k ask) row(a *Array, m looked, i int) {
	k.Helper()
	k.cheap(a, m, i, func(a *Array) {
		v, e := a.Get(i)
		want, f := m.get(i)
		k.must(sameValue(v, want) && e == f, "Get", i, v, e, want, f)
	})
	k.cheap(a, m, i, func(a *Array) {
		null, e := a.Null(i)
		want, f := m.null(i)
		k.must(null == want && e == f, "Null", i, null, e, want, f)
	})
	k.cheap(a, m, i, func(a *Array) {
		x, e := a.Num(i)
		want, f := m.part(i, 2, 3, 4, 5, 6, 7, 8, 9, 10, 11, api.Choice)
		k.must(x == want.Num && e == f, "Num", i, x, e, want, f)
	})
	k.cheap(a, m, i, func(a *Array) {
		s, e := a.Text(i)
		want, f := m.part(i, api.Text, api.Bytes, api.Fixed)
		k.must(s == want.Text && e == f, "Text", i, s, e, want, f)
	})
	items, e := a.Items(i)
	want, f := m.items(i)
	k.must(e == f && (items == nil) == (e != api.OK), "Items", i, e, f)
	if e == api.OK {
		k.all(items, want)
	}
}

// all asks all of an array, and of those that come of it.
func (k ask) all(a *Array, m looked) {
	k.Helper()
	k.must(a.Len() == m.n && sameField(a.Field(), m.f), "Len, Field", a.Len(), a.Field(), m.n, m.f)
	for i := range m.n {
		k.row(a, m, i)
	}
	for _, i := range append(farNumbers, m.n) {
		k.row(a, m, i)
		if i != 0 {
			k.cut(a, m, 0, i)
		}
		k.cut(a, m, i, 1)
		k.cut(a, m, i, i)
	}
	for n := -1; n <= len(m.d.Children)+len(m.d.Dict); n++ {
		k.child(a, m, n)
	}
	k.child(a, m, math.MaxInt)
	k.child(a, m, math.MinInt)
	var l []api.Value
	for i, v := range a.All() {
		k.must(i == len(l), "All gives", i)
		l = append(l, v)
	}
	k.must(slices.EqualFunc(l, m.values(), sameValue), "All", l, m.values())
	k.must(slices.EqualFunc(a.Values(), l, sameValue), "Values", a.Values(), l)
	k.must(sameData(a.Data(), m.data()), "Data", a.Data(), m.data())
	if m.n > 0 {
		from := k.c.Intn(m.n + 1)
		k.cut(a, m, from, k.c.Intn(m.n+1-from))
		k.cut(a, m, from, m.n+1-from)
	}
}

func (k ask) child(a *Array, m looked, n int) {
	k.Helper()
	b, e := a.Child(n)
	want, f := m.child(n)
	k.must(e == f && (b == nil) == (e != api.OK), "Child", n, e, f)
	if e == api.OK {
		k.must(b.Len() == want.n && slices.EqualFunc(b.Values(), want.values(), sameValue) && sameField(b.Field(), want.f) && sameData(b.Data(), want.data()), "Child", n)
		if k.c.Intn(3) == 0 {
			k.all(b, want)
		}
	}
}

func (k ask) cut(a *Array, m looked, from, n int) {
	k.Helper()
	b, e := a.Cut(from, n)
	if from < 0 || n < 0 || from > m.n || n > m.n-from {
		k.must(e == api.ErrRange && b == nil, "Cut", from, n, e)
		return
	}
	k.must(e == api.OK && b.Len() == n, "Cut", from, n, e)
	want := looked{m.f, m.d, m.first + from, n}
	k.must(slices.EqualFunc(b.Values(), want.values(), sameValue) && sameData(b.Data(), want.data()), "Cut", from, n)
	if n < m.n && k.c.Intn(2) == 0 {
		k.all(b, want)
	}
}

// longest tells how many bytes the longest buffer has.
func longest(d *api.Data) int {
	n := 0
	each(d, func(x *api.Data) {
		for _, b := range x.Buffers {
			n = max(n, len(b))
		}
	})
	return n
}

// P8.2, P8.3: each call of an array, of those that come of it, and of the same behind writes, as the chapter's words say.
func TestCalls(t *testing.T) {
	lost := 0
	for seed := range int64(2500) {
		c := newChance(seed)
		f := c.field()
		d := c.array(f, c.Intn(6))
		a, x := Open(f, d)
		if x.Err != api.OK {
			t.Fatalf("seed %d: %v", seed, x)
		}
		k := ask{t, c, seed, longest(&d)}
		m := looked{f, d, 0, d.Length}
		k.all(a, m)
		for range 3 {
			c.write(&d)
			k.all(a, m)
		}
		if len(m.values()) < m.n {
			lost++
		}
	}
	if lost < 100 {
		t.Errorf("only %d arrays had rows without a value", lost)
	}
}

// P8.3: whatever is asked of a watched array, and of those that come of it, reads within its buffers alone, and is told.
func TestWatched(t *testing.T) {
	for seed := range int64(1500) {
		c := newChance(seed)
		f := c.field()
		d := c.array(f, 1+c.Intn(6))
		plain, _ := Open(f, d)
		w, other := view.NewWatch(), view.NewWatch()
		k := ask{t, c, seed, longest(&d)}
		a := plain.Watched(other).Watched(w)
		for range 3 {
			before := len(w.Reads())
			askAll(a, 3)
			k.inside(w)
			k.must(k.most == 0 || len(w.Reads()) > before, "nothing was told")
			plain.Data()
			plain.Values()
			a.Watched(nil).Data()
			a.Watched(nil).Values()
			c.write(&d)
		}
		k.must(len(other.Reads()) == 0, "told to a watch that was replaced")
		told := len(w.Reads())
		plain.Get(0)
		askAll(plain, 3)
		askAll(a.Watched(nil), 3)
		k.must(len(w.Reads()) == told, "the array that Watched was asked of is watched")
	}
}

// askAll asks all calls of an array and of what comes of it.
func askAll(a *Array, deep int) {
	if deep == 0 {
		return
	}
	for i := -1; i <= a.Len(); i++ {
		a.Get(i)
		a.Null(i)
		a.Num(i)
		a.Text(i)
		if b, e := a.Items(i); e == api.OK {
			askAll(b, deep-1)
		}
	}
	for k := range 4 {
		if b, e := a.Child(k); e == api.OK {
			askAll(b, deep-1)
		}
	}
	if b, e := a.Cut(0, a.Len()/2); e == api.OK && a.Len() > 1 {
		askAll(b, deep-1)
	}
	a.Values()
	a.Data()
}

// readsOf tells what one call of a watched array reads.
func readsOf(a *Array, call func(a *Array)) []api.Read {
	w := view.NewWatch()
	call(a.Watched(w))
	return w.Reads()
}

// P8.3: what is read of a row, byte by byte; of a cut too, whose places are the buffer's.
func TestReads(t *testing.T) {
	f := maybe(plainField("t", api.Text))
	a, _ := Open(f, api.Data{Length: 3, Offset: 8, Nulls: 1, Buffers: [][]byte{{0, 5}, int32s(9, 9, 9, 9, 9, 9, 9, 9, 1, 3, 3, 6), []byte("xabcde")}})
	b, _ := a.Cut(1, 2)
	sum := func(l []api.Read) int {
		n := 0
		for _, r := range l {
			n += r.To - r.From
		}
		return n
	}
	l := readsOf(b, func(a *Array) {
		if s, e := a.Text(1); s != "cde" || e != api.OK {
			t.Errorf("Text: %q, %d", s, e)
		}
	})
	if sum(l) != 1+8+3 || l[0] != (api.Read{From: 1, To: 2}) || l[len(l)-1] != (api.Read{From: 3, To: 6}) {
		t.Errorf("reads: %v", l)
	}
	for _, call := range []func(a *Array){func(a *Array) { a.Null(0) }, func(a *Array) { a.Get(0) }, func(a *Array) { a.Text(0) }} {
		if l := readsOf(b, call); !slices.Equal(l, []api.Read{{From: 1, To: 2}}) {
			t.Errorf("reads of a null row: %v", l)
		}
	}
	l = readsOf(a, func(a *Array) {
		a.Len()
		a.Field()
		a.Get(3)
		a.Get(-1)
		a.Num(0)
		a.Items(0)
		a.Child(0)
		a.Cut(0, 2)
	})
	if len(l) > 0 {
		t.Errorf("reads of calls that ask no byte: %v", l)
	}
	l = readsOf(a, func(a *Array) { a.Data() })
	if sum(l) < 2+48+6 {
		t.Errorf("Data reads %v", l)
	}
}

// P8.2: reads of what comes of a watched array are told as those of the same without it.
func TestWatchGoesAlong(t *testing.T) {
	item := plainField("i", api.Int16)
	f := with("s", api.Struct, with("l", api.List, item), dict("d", api.Uint8, item))
	l := api.Data{Length: 2, Buffers: [][]byte{nil, int32s(0, 1, 3)}, Children: []api.Data{numbersData(3, 2)}}
	d := api.Data{Length: 2, Buffers: [][]byte{nil, {0, 0}}, Dict: []api.Data{numbersData(1, 2)}}
	a := opens(t, f, api.Data{Length: 2, Buffers: [][]byte{nil}, Children: []api.Data{l, d}})
	got := readsOf(a, func(a *Array) {
		lists, _ := a.Child(0)
		items, _ := lists.Items(1)
		items.Get(1)
		dicts, _ := a.Child(1)
		values, _ := dicts.Child(0)
		values.Num(0)
		cut, _ := values.Cut(0, 1)
		for range cut.All() {
		}
		cut.Data()
	})
	want := []api.Read{{From: 4, To: 8}, {From: 8, To: 12}, {From: 4, To: 6}, {From: 0, To: 2}, {From: 0, To: 2}, {From: 0, To: 2}}
	if !slices.Equal(got, want) {
		t.Errorf("reads: %v, want %v", got, want)
	}
}

// P8.4: cuts, items and children are what the values of the whole say.
func TestCuts(t *testing.T) {
	for seed := range int64(1500) {
		c := newChance(seed)
		f := c.field()
		d := c.array(f, c.Intn(7))
		a, _ := Open(f, d)
		k := ask{t, c, seed, 0}
		l := a.Values()
		k.must(len(l) == a.Len() && a.Len() == d.Length, "Values", len(l))
		for from := range len(l) + 1 {
			for n := range len(l) - from + 1 {
				b, e := a.Cut(from, n)
				k.must(e == api.OK && slices.EqualFunc(b.Values(), l[from:from+n], sameValue), "Cut", from, n)
				more := c.Intn(n + 1)
				b2, e := b.Cut(more, n-more)
				b3, _ := a.Cut(from+more, n-more)
				k.must(e == api.OK && reflect.DeepEqual(b2, b3), "a cut of a cut", from, n, more)
				x := b.Data()
				k.must(Check(b.Field(), x).Err == api.OK, "Data of a cut is no array", Check(b.Field(), x))
				y, _ := Open(f, x)
				k.must(slices.EqualFunc(y.Values(), l[from:from+n], sameValue), "Data of a cut")
				for j := range n {
					k.within(b, j, l[from+j])
				}
			}
		}
	}
}

// within looks at the items or children of a row whose value is v.
func (k ask) within(a *Array, i int, v api.Value) {
	k.Helper()
	switch a.Field().Type.Kind {
	case api.List, api.Span:
		b, e := a.Items(i)
		if v.Null {
			k.must(e == api.ErrValue && b == nil, "Items of null", e)
			return
		}
		k.must(e == api.OK && slices.EqualFunc(b.Values(), v.List, sameValue), "Items", i)
		k.must(sameField(b.Field(), a.Field().Type.Fields[0]) && Check(b.Field(), b.Data()).Err == api.OK, "Items' Data")
	case api.Struct:
		for n := range a.Field().Type.Fields {
			b, e := a.Child(n)
			k.must(e == api.OK && b.Len() == a.Len(), "Child", n)
			x, e := b.Get(i)
			k.must(e == api.OK && (v.Null || sameValue(x, v.List[n])), "Child", n, i, x, v)
		}
	}
}

// P8.2: All may be left, gone through again, and within itself, and gives what lies there by then.
func TestAll(t *testing.T) {
	b := []byte{1, 2, 3, 4}
	a, _ := Open(plainField("a", api.Int8), api.Data{Length: 4, Buffers: [][]byte{nil, b}})
	all := a.All()
	var got []int64
	for i, v := range all {
		got = append(got, v.Num)
		if i == 1 {
			break
		}
	}
	for i, v := range all {
		for k, x := range all {
			if k > i {
				break
			}
			got = append(got, x.Num)
		}
		got = append(got, 10*v.Num)
	}
	if !slices.Equal(got, []int64{1, 2, 1, 10, 1, 2, 20, 1, 2, 3, 30, 1, 2, 3, 4, 40}) {
		t.Errorf("%v", got)
	}
	got = nil
	b[0] = 7
	for i, v := range all {
		got = append(got, v.Num)
		if i < 3 {
			b[i+1] = byte(v.Num + 1)
		}
	}
	if !slices.Equal(got, []int64{7, 8, 9, 10}) {
		t.Errorf("behind writes: %v", got)
	}
	none, _ := a.Cut(2, 0)
	for range none.All() {
		t.Error("All of no rows gives one")
	}
	if len(none.Values()) != 0 {
		t.Error("Values of no rows")
	}
}

// P8.2: All ends ahead of a row without a value, and what panics in its loop is not caught.
func TestAllEnds(t *testing.T) {
	offsets := int32s(0, 1, 2, 3)
	a, _ := Open(plainField("t", api.Text), api.Data{Length: 3, Buffers: [][]byte{nil, offsets, []byte("abc")}})
	offsets[8] = 9
	if l := a.Values(); len(l) != 1 || l[0].Text != "a" {
		t.Errorf("%v", l)
	}
	defer func() {
		if recover() != "mine" {
			t.Error("a panic of the loop was caught")
		}
	}()
	for range a.All() {
		panic("mine")
	}
}

// P8.2: a value of just MaxWeight is one, one of more is none; so with what All gives together.
func TestWeights(t *testing.T) {
	// A list of 127 times 32768 + 16 and of one that is left: 16 + 30704; and 16 for the list.
	f, items := heavy([]int{32768, 30704, 1}, repeated(127, 0, 1)...)
	offsets := int32s(0, 128)
	g := with("l", api.List, f)
	a, x := Open(g, api.Data{Length: 1, Buffers: [][]byte{nil, offsets}, Children: []api.Data{items}})
	if x.Err != api.OK {
		t.Fatal(x)
	}
	if v, e := a.Get(0); e != api.OK || modelWeight(v) != 4194304 || len(a.Values()) != 1 {
		t.Errorf("a value of MaxWeight: %d, %d", modelWeight(v), e)
	}
	end := items.Dict[0].Buffers[1][8:]
	end[0]++ // the text is a byte longer
	if v, e := a.Get(0); e != api.ErrValue || !sameValue(v, api.Value{}) || len(a.Values()) != 0 {
		t.Errorf("a value of more: %d", e)
	}
	if b, e := a.Items(0); e != api.OK || b.Len() != 128 || len(b.Values()) != 128 {
		t.Errorf("the items of a row that weighs too much: %d", e)
	}

	f, d := heavy([]int{65536, 0}, repeated(64, 1)...)
	a, _ = Open(f, d)
	copy(d.Buffers[1], repeated(64, 0))
	if l := a.Values(); len(l) != 63 { // 64 times 65552 is above MaxWeight
		t.Errorf("All gives %d rows", len(l))
	}
	if v, e := a.Get(63); e != api.OK || len(v.Text) != 65536 {
		t.Errorf("Get of a row that All does not give: %d", e)
	}
	b, _ := a.Cut(1, 63)
	if len(b.Values()) != 63 {
		t.Errorf("a cut of 63 gives %d", len(b.Values()))
	}
}

// P8.2: each value weighs, nulls too, up to just MaxWeight.
func TestWeightsOfMany(t *testing.T) {
	bools := maybe(plainField("b", api.Bool))
	f := with("l", api.List, dict("d", api.Uint8, with("w", api.List, bools)))
	for _, validity := range [][]byte{nil, make([]byte, 512)} {
		items := api.Data{Length: 4093, Buffers: [][]byte{validity, make([]byte, 512)}}
		if validity != nil {
			items.Nulls = 4093
		}
		// 127 times 16 and 2047 items, once 16 and 2046 items, and 16 for the list.
		lists := api.Data{Length: 2, Buffers: [][]byte{nil, int32s(0, 2047, 4093)}, Children: []api.Data{items}}
		indices := repeated(127, 0, 1)
		named := api.Data{Length: 128, Buffers: [][]byte{nil, indices}, Dict: []api.Data{lists}}
		a := opens(t, f, api.Data{Length: 1, Buffers: [][]byte{nil, int32s(0, 128)}, Children: []api.Data{named}})
		if v, e := a.Get(0); e != api.OK || modelWeight(v) != 4194304 {
			t.Errorf("a value of MaxWeight: %d", e)
		}
		indices[127] = 0
		if _, e := a.Get(0); e != api.ErrValue {
			t.Errorf("a value of 16 more: %d", e)
		}
	}
}

// P8.2, R1: lists that a write has made to hold all of each other, again and again, are told to have no value, soon.
func TestWrittenBomb(t *testing.T) {
	f, d := plainField("a", api.Int8), numbersData(4096, 1)
	var maps, offsets [][]byte
	for range 40 {
		f = maybe(with("l", api.List, f))
		maps, offsets = append(maps, repeated(512, 0xff)), append(offsets, make([]byte, 4*4097))
		d = api.Data{Length: 4096, Buffers: [][]byte{maps[len(maps)-1], offsets[len(maps)-1]}, Children: []api.Data{d}}
	}
	a, x := Open(f, d)
	if x.Err != api.OK {
		t.Fatal(x)
	}
	// Each other row is null now, and those between hold all rows below them.
	for k := range maps {
		copy(maps[k], repeated(512, 0x55))
		for i := range 4096 {
			copy(offsets[k][4*i:], int32s(i%2*4096))
		}
	}
	begin := time.Now()
	for i := range 4 {
		v, e := a.Get(i)
		if i%2 == 0 && (e != api.ErrValue || !sameValue(v, api.Value{})) || i%2 == 1 && (e != api.OK || !v.Null) {
			t.Errorf("row %d: %d", i, e)
		}
	}
	if len(a.Values()) != 0 {
		t.Error("Values")
	}
	if b, e := a.Items(0); e != api.OK || b.Len() != 4096 {
		t.Errorf("Items: %d", e)
	}
	if s := time.Since(begin); s > 20*time.Second {
		t.Errorf("it took %v", s)
	}
}

// P8.5: what is handed to Open is copied but for the bytes, and nothing is written.
func TestOpenKeepsBytesAlone(t *testing.T) {
	for seed := range int64(800) {
		c := newChance(seed)
		f := c.field()
		d := c.array(f, c.Intn(6))
		g, e := copied(f), copiedData(d)
		a, _ := Open(f, d)
		askAll(a, 3)
		if !sameField(f, g) || !sameData(d, e) {
			t.Fatalf("seed %d: changed", seed)
		}
		var lists [][][]byte
		each(&d, func(x *api.Data) { lists = append(lists, x.Buffers) })
		each(&d, func(x *api.Data) { x.Length, x.Offset, x.Nulls = -1, 1<<40, 77 })
		for _, l := range lists {
			for i := range l {
				l[i] = nil
			}
		}
		clearParts(d)
		clearFields(f.Type.Fields)
		m := looked{g, e, 0, e.Length}
		ask{t, c, seed, longest(&e)}.all(a, m)
	}
}

// clearParts forgets what lies within an array, from the innermost on.
func clearParts(d api.Data) {
	for k := range d.Children {
		clearParts(d.Children[k])
		d.Children[k] = api.Data{}
	}
	for k := range d.Dict {
		clearParts(d.Dict[k])
		d.Dict[k] = api.Data{}
	}
}

// clearFields forgets all fields within.
func clearFields(l []api.Field) {
	for i := range l {
		clearFields(l[i].Type.Fields)
		l[i] = api.Field{}
	}
}

// scribble writes into all of a value's lists, their room too.
func scribble(l []api.Value) {
	l = l[:cap(l)]
	for i := range l {
		scribble(l[i].List)
		l[i] = api.Value{Text: "scribbled", Num: 99}
	}
}

// scribbleData writes into all of an array, the room of its lists too.
func scribbleData(d *api.Data) {
	d.Buffers = d.Buffers[:cap(d.Buffers)]
	for k, b := range d.Buffers {
		b = b[:cap(b)]
		for i := range b {
			b[i] ^= 0xff
		}
		d.Buffers[k] = nil
	}
	for _, l := range [][]api.Data{d.Children, d.Dict} {
		l = l[:cap(l)]
		for k := range l {
			scribbleData(&l[k])
			l[k] = api.Data{}
		}
	}
}

// scribbleFields writes into all fields within, the room of their lists too.
func scribbleFields(l []api.Field) {
	l = l[:cap(l)]
	for i := range l {
		scribbleFields(l[i].Type.Fields)
		l[i] = plainField("scribbled", 99)
	}
}

// P8.5: each answer is memory of its own.
func TestAnswersAreNewMemory(t *testing.T) {
	for seed := range int64(800) {
		c := newChance(seed)
		f := c.field()
		d := c.array(f, 1+c.Intn(5))
		a, _ := Open(f, d)
		before := copiedData(d)
		k := ask{t, c, seed, 0}
		want, data := a.Values(), a.Data()
		one, two := a.Values(), a.Values()
		for i := range one {
			scribble(one[i].List)
			one[i] = num(99)
			k.must(slices.EqualFunc(one[i+1:], want[i+1:], sameValue), "rows share memory")
			v, _ := a.Get(i)
			scribble(v.List)
		}
		scribble(one)
		k.must(slices.EqualFunc(two, want, sameValue), "Values share memory")
		g := a.Field()
		scribbleFields(g.Type.Fields)
		x := a.Data()
		for i := range x.Buffers { // one buffer by the other
			if n := cap(x.Buffers[i]); n > 0 {
				b := x.Buffers[i][:n]
				for j := range b {
					b[j] ^= 0xff
				}
			}
			k.must(slices.EqualFunc(x.Buffers[i+1:], data.Buffers[i+1:], bytes.Equal), "buffers share memory")
		}
		scribbleData(&x)
		k.must(sameData(d, before) && sameData(a.Data(), data) && sameField(a.Field(), f), "answers share memory with the array")
		k.must(slices.EqualFunc(a.Values(), want, sameValue), "answers share memory with the array")
	}
}

// P8.5: texts stay what they were when bytes are written.
func TestTextsAreNewMemory(t *testing.T) {
	b := []byte("abcdef")
	a, _ := Open(wide("x", api.Fixed, 3), api.Data{Length: 2, Buffers: [][]byte{nil, b}})
	s, _ := a.Text(0)
	v, _ := a.Get(1)
	l, d := a.Values(), a.Data()
	copy(b, "XXXXXX")
	if s != "abc" || v.Text != "def" || l[0].Text != "abc" || string(d.Buffers[1]) != "abcdef" {
		t.Errorf("%q, %q, %v, %q", s, v.Text, l, d.Buffers[1])
	}
	if s, _ := a.Text(0); s != "XXX" {
		t.Errorf("the bytes were copied: %q", s)
	}
}

// P8.2: a Choice has no validity, and its number is told whatever its child is.
func TestNumOfChoice(t *testing.T) {
	f := with("c", api.Choice, maybe(plainField("a", api.Null)), plainField("b", api.Text))
	codes := []byte{1, 0}
	texts := api.Data{Length: 1, Buffers: [][]byte{nil, int32s(0, 1), []byte("x")}}
	a, x := Open(f, api.Data{Length: 2, Buffers: [][]byte{codes, int32s(0, 0)}, Children: []api.Data{{Length: 1, Nulls: 1}, texts}})
	if x.Err != api.OK {
		t.Fatal(x)
	}
	if l := a.Values(); !slices.EqualFunc(l, []api.Value{chosen(1, text("x")), chosen(0, null)}, sameValue) {
		t.Errorf("%v", l)
	}
	for i, want := range []int64{1, 0} {
		if n, e := a.Num(i); n != want || e != api.OK {
			t.Errorf("Num(%d): %d, %d", i, n, e)
		}
		if null, e := a.Null(i); null || e != api.OK {
			t.Errorf("Null(%d): %v, %d", i, null, e)
		}
	}
	texts.Buffers[2][0] = 0xff
	if n, e := a.Num(0); n != 0 || e != api.ErrValue {
		t.Errorf("Num of a row without a value: %d, %d", n, e)
	}
}

// P8.2: numbers of all kinds at their edges.
func TestNumbers(t *testing.T) {
	for k := api.Int8; k <= api.Float64; k++ {
		width := modelWidths[k]
		for _, b := range [][]byte{{0, 0, 0, 0, 0, 0, 0, 0}, {255, 255, 255, 255, 255, 255, 255, 255}, {0x80, 0x80, 0x80, 0x80, 0x80, 0x80, 0x80, 0x80}, {0x7f, 0x7f, 0x7f, 0x7f, 0x7f, 0x7f, 0x7f, 0x7f}, {1, 2, 3, 4, 5, 6, 7, 0x88}} {
			a, _ := Open(plainField("a", k), api.Data{Length: 8 / width, Buffers: [][]byte{nil, b}})
			for i := range 8 / width {
				if x, e := a.Num(i); x != modelNumber(b, i, width, modelSigned(k)) || e != api.OK {
					t.Errorf("kind %d of %x: %d, %d", k, b, x, e)
				}
			}
		}
	}
}

// R5: an array may be asked by several at once.
func TestSeveral(t *testing.T) {
	f, d := heavy([]int{5, 6, 7}, repeated(40, 0, 1, 2, 1)...)
	a, _ := Open(with("l", api.List, f), api.Data{Length: 2, Buffers: [][]byte{nil, int32s(0, 3, 43)}, Children: []api.Data{d}})
	want := a.Values()
	var wait sync.WaitGroup
	for range 8 {
		wait.Go(func() {
			for range 50 {
				if !slices.EqualFunc(a.Values(), want, sameValue) {
					t.Error("another answer")
				}
			}
		})
	}
	wait.Wait()
}
