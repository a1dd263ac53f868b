package match

import (
	"slices"
	"strings"
	"testing"

	"colonnade/api"
	"colonnade/build"
)

// Schemas that may not be, ahead of all else; the left one or the right one.
func TestSchemas(t *testing.T) {
	s := schemaOf(t, "a int8, b int8")
	wrong := api.Batch{Rows: -1}
	for what, x := range map[string]api.Schema{
		"a name twice":       {Fields: []api.Field{s.Fields[0], s.Fields[0]}},
		"no kind":            {Fields: []api.Field{{Name: "a"}}},
		"a field too many":   {Fields: make([]api.Field, 33)},
		"too many notes":     {Notes: make([]api.Note, 17)},
		"a Choice with null": {Fields: []api.Field{{Name: "c", Nullable: true, Type: api.Type{Kind: api.Choice, Fields: s.Fields}}}},
	} {
		for _, join := range []int{0, api.JoinInner, api.JoinAnti} {
			for _, keys := range [][]int{nil, {0}, {7}} {
				ask{join, side{x, wrong}, side{s, wrong}, keys, keys}.refused(t, what, api.ErrType, api.ErrType)
				ask{join, side{s, wrong}, side{x, wrong}, keys, keys}.refused(t, what, api.ErrType, api.ErrType)
				ask{join, side{s, wrong}, side{x, api.Batch{}}, keys, []int{0, 0}}.refused(t, what, api.ErrType, api.ErrType)
			}
		}
	}
}

// A batch's errors, the left one's ahead of the right one's, both ahead of kinds and keys; also where the column that is wrong is no key. Type asks nothing of batches.
func TestBatches(t *testing.T) {
	s := schemaOf(t, "a int8, b text")
	right := batchOf(t, s, "2 1", `"x" "y"`)
	hurt := func(change func(b *api.Batch)) api.Batch {
		b := batchOf(t, s, "2 1", `"x" "y"`)
		change(&b)
		return b
	}
	other := hurt(func(b *api.Batch) { b.Columns[0].Nulls = -1 })
	for want, l := range map[api.Errno][]api.Batch{
		api.ErrColumns: {
			hurt(func(b *api.Batch) { b.Rows = 3 }), hurt(func(b *api.Batch) { b.Rows = -1 }), hurt(func(b *api.Batch) { b.Rows = 4097 }), hurt(func(b *api.Batch) { b.Columns = b.Columns[:1] }),
			hurt(func(b *api.Batch) { b.Columns[1].Length = 1 }), hurt(func(b *api.Batch) { b.Columns = append(b.Columns, b.Columns[0]) }),
			hurt(func(b *api.Batch) { b.Columns[0].Buffers = nil; b.Columns[1].Length = 1 }),
		},
		api.ErrUtf:   {hurt(func(b *api.Batch) { b.Columns[1].Buffers[2][0] = 0xff })},
		api.ErrShape: {hurt(func(b *api.Batch) { b.Columns[0].Buffers = nil }), hurt(func(b *api.Batch) { b.Columns[0], b.Columns[1] = b.Columns[1], b.Columns[0] })},
		api.ErrSmall: {hurt(func(b *api.Batch) { b.Columns[0].Buffers[1] = nil; b.Columns[1].Buffers = nil })},
		api.ErrRows:  {hurt(func(b *api.Batch) { b.Columns[1].Offset = api.MaxRows })},
	} {
		for _, b := range l {
			if _, e := build.Rows(s, b); e != want {
				t.Fatalf("build.Rows: %d, not %d", e, want)
			}
			for _, join := range append(joins, 0, 9) {
				for _, x := range []struct {
					keys []int
					want api.Errno // of Type
				}{{[]int{0}, api.OK}, {[]int{1}, api.OK}, {nil, api.ErrKey}, {[]int{2}, api.ErrKey}} {
					typed := ask{join, side{s, b}, side{s, right}, x.keys, x.keys}.modelKeysAndType()
					for _, a := range []ask{{join, side{s, b}, side{s, right}, x.keys, x.keys}, {join, side{s, right}, side{s, b}, x.keys, x.keys}, {join, side{s, b}, side{s, other}, x.keys, x.keys}} {
						a.refused(t, "a batch that may not be", want, typed)
					}
					ask{join, side{s, other}, side{s, b}, x.keys, x.keys}.refused(t, "both batches may not be", api.ErrLength, typed)
				}
			}
		}
	}
}

// modelKeysAndType tells the error of Type.
func (a ask) modelKeysAndType() api.Errno {
	_, e := a.modelType()
	return e
}

// Columns that are too heavy together are no fault, neither in what is handed in nor in what comes out.
func TestHeavyTogether(t *testing.T) {
	text := strings.Repeat("x", 600)
	s := schemaOf(t, "a dict(0, int8, w text), b dict(1, int8, w text), n int16")
	texts, l := make([]api.Value, api.MaxRows), make([]api.Value, api.MaxRows)
	for i := range l {
		texts[i].Text, l[i].Num = text, int64(i)
	}
	b := api.Batch{Rows: len(l), Columns: []api.Data{formOf(t, s.Fields[0], texts), formOf(t, s.Fields[1], texts), formOf(t, s.Fields[2], l)}}
	if _, e := build.Rows(s, b); e != api.ErrRows {
		t.Fatalf("build.Rows: %d", e)
	}
	a := ask{api.JoinSemi, side{s, b}, side{s, b}, []int{0, 2, 1}, []int{1, 2, 0}}
	holdsJoin(t, "too heavy together", a, s, b, api.OK)
	a = ask{api.JoinFull, side{s, b}, numbers(t, "q int16", 1, 2), []int{2}, []int{0}}
	holdsJoin(t, "too heavy together, bare", a, api.Schema{}, api.Batch{}, api.ErrBytes)
	a.k1, a.k2, a.l, a.r = []int{0}, []int{2}, a.r, a.l
	p, e := a.pairs()
	if e != api.OK || len(p) != api.MaxRows {
		t.Errorf("%d pairs, %d", len(p), e)
	}
}

// R1: whatever is handed in, each call answers, and with just the error that comes first.
func TestAnything(t *testing.T) {
	c := newChance(41)
	told := map[api.Errno]int{}
	for range 4000 {
		a := c.ask(t, 4)
		for _, x := range []*side{&a.l, &a.r} {
			if n := len(x.s.Fields); c.in(6) {
				c.hurt(&x.s.Fields[c.Intn(n)])
			}
			if n := len(x.b.Columns); c.in(6) {
				c.hurtArray(&x.b.Columns[c.Intn(n)])
			}
			if c.in(12) {
				x.b.Rows += c.Intn(3) - 1
			}
			if c.in(20) {
				x.b.Columns = x.b.Columns[1:]
			}
		}
		for _, k := range []*[]int{&a.k1, &a.k2} {
			for c.in(8) {
				*k = append(*k, c.Intn(6)-1)
			}
		}
		if c.in(12) {
			a.join = c.Intn(10) - 2
		}
		for _, e := range a.holds(t, "anything") {
			told[e]++
		}
	}
	for _, e := range []api.Errno{api.OK, api.ErrType, api.ErrColumns, api.ErrLength, api.ErrSmall, api.ErrArg, api.ErrKey, api.ErrUnlike, api.ErrTwice, api.ErrNull} {
		if told[e] < 30 {
			t.Errorf("the error %d came only %d times", e, told[e])
		}
	}
}

// R1: each call ends, also of types and arrays that stand in themselves.
func TestEnds(t *testing.T) {
	ring := make([]api.Field, 1)
	ring[0] = api.Field{Name: "i", Type: api.Type{Kind: api.List, Fields: ring}}
	data := make([]api.Data, 1)
	data[0] = api.Data{Length: 1, Buffers: [][]byte{nil, {0, 0, 0, 0, 1, 0, 0, 0}}, Children: data}
	b := api.Batch{Rows: 1, Columns: data}
	some := numbers(t, "a int8", 1)
	rings := side{api.Schema{Fields: ring}, b}
	onFirst(api.JoinInner, rings, some).refused(t, "a type in itself", api.ErrType, api.ErrType)
	onFirst(api.JoinFull, some, rings).refused(t, "a type in itself", api.ErrType, api.ErrType)
	onFirst(api.JoinFull, rings, rings).refused(t, "a type in itself", api.ErrType, api.ErrType)
	deep := side{schemaOf(t, "a list(i list(j list(k int8)))"), b}
	for _, a := range []ask{onFirst(api.JoinSemi, deep, deep), onFirst(api.JoinSemi, some, deep)} {
		if p, e := a.pairs(); e == api.OK || len(p) > 0 {
			t.Error("an array that stands in itself is let by")
		}
		if _, _, e := a.both(); e == api.OK {
			t.Error("an array that stands in itself is let by")
		}
	}
}

// R1: as deep as types may be.
func TestDeep(t *testing.T) {
	text := "a int8"
	for range api.MaxDepth - 1 {
		text = "a list(" + text + ")"
	}
	s := schemaOf(t, text)
	v := list(5)
	for range api.MaxDepth - 2 {
		v = api.Value{List: []api.Value{v}}
	}
	x := side{s, api.Batch{Rows: 1, Columns: []api.Data{formOf(t, s.Fields[0], []api.Value{v})}}}
	w := slices.Clone(x.s.Fields)
	w[0].Name = "b"
	for _, join := range joins {
		if got := onFirst(join, x, side{api.Schema{Fields: w}, x.b}).holds(t, "deep"); got != [3]api.Errno{} {
			t.Errorf("join %d: %v", join, got)
		}
	}
}
