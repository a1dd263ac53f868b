package order

import (
	"math"
	"slices"
	"strconv"
	"strings"
	"testing"

	"colonnade/api"
	"colonnade/build"
	"colonnade/kind"
)

// calls are all calls of one batch, with workers and numbers that may be. What they answer beside an error is told as a number of rows.
func calls() map[string]func(s api.Schema, b api.Batch, keys []api.Key) (int, api.Errno) {
	return map[string]func(s api.Schema, b api.Batch, keys []api.Key) (int, api.Errno){
		"Sort": func(s api.Schema, b api.Batch, keys []api.Key) (int, api.Errno) {
			l, e := Sort(s, b, keys, 2)
			return len(l), e
		},
		"Sorted": func(s api.Schema, b api.Batch, keys []api.Key) (int, api.Errno) {
			is, e := Sorted(s, b, keys)
			if is {
				return 1, e
			}
			return 0, e
		},
		"Ranks": func(s api.Schema, b api.Batch, keys []api.Key) (int, api.Errno) {
			l, e := Ranks(s, b, keys)
			return len(l), e
		},
		"Merge": func(s api.Schema, b api.Batch, keys []api.Key) (int, api.Errno) {
			l, e := Merge(s, []api.Batch{b}, keys)
			return len(l), e
		},
		"Top": func(s api.Schema, b api.Batch, keys []api.Key) (int, api.Errno) {
			l, e := Top(s, b, keys, 2, 2)
			return len(l), e
		},
	}
}

// refused holds all calls of one batch to be refused with an error, and to tell nothing else.
func refused(t *testing.T, what string, want api.Errno, s api.Schema, b api.Batch, keys []api.Key) {
	t.Helper()
	for name, call := range calls() {
		if n, e := call(s, b, keys); e != want || n != 0 {
			t.Errorf("%s, %s: %d, %d, not %d", name, what, n, e, want)
		}
	}
}

var noKeys = []api.Key{{Column: -1}}

// P19.1: keys that may not be.
func TestKeys(t *testing.T) {
	s := schemaOf(t, "a int8, b int8, c int8, d int8, e int8, f int8, g int8, h int8, i int8")
	b := batchOf(t, s, [][]api.Value{make([]api.Value, 9), make([]api.Value, 9)})
	var all []api.Key
	for k := range s.Fields {
		all = append(all, api.Key{Column: k})
	}
	for _, keys := range [][]api.Key{all, make([]api.Key, 5000), {{Column: 9}}, {{Column: -1}}, {{Column: math.MaxInt}}, {{Column: math.MinInt}},
		{{Column: 3}, {Column: 1}, {Column: 3, Down: true, Last: true}}, {{Column: 0}, {Column: 0, Last: true}}, slices.Concat(all[:7], all[:1]), {{Column: 1}, {Column: 9}}} {
		refused(t, "keys that may not be", api.ErrKey, s, b, keys)
		if _, e := Sort(s, b, keys, 0); e != api.ErrKey {
			t.Errorf("ErrArg ahead of ErrKey: %d", e)
		}
		if _, e := Top(s, b, keys, -1, 0); e != api.ErrKey {
			t.Errorf("ErrArg ahead of ErrKey: %d", e)
		}
	}
	for name, call := range calls() {
		for _, keys := range [][]api.Key{all[:8], all[1:], nil, {{Column: 8}}} {
			if _, e := call(s, b, keys); e != api.OK {
				t.Errorf("%s: %d", name, e)
			}
		}
	}
	refused(t, "no columns", api.ErrKey, api.Schema{}, api.Batch{Rows: 2}, []api.Key{{}})
}

// P19.1: schemas that may not be, ahead of all else.
func TestSchemas(t *testing.T) {
	s := schemaOf(t, "a int8, b int8")
	twice := api.Schema{Fields: []api.Field{s.Fields[0], s.Fields[0]}}
	kindless := api.Schema{Fields: []api.Field{{Name: "a"}}}
	notes := api.Schema{Notes: make([]api.Note, 17)}
	for _, s := range []api.Schema{twice, kindless, notes} {
		refused(t, "a schema that may not be", api.ErrType, s, api.Batch{Rows: -1}, noKeys)
		if _, e := Sort(s, api.Batch{Rows: -1}, noKeys, 0); e != api.ErrType {
			t.Errorf("Sort: %d", e)
		}
		if _, e := Top(s, api.Batch{Rows: -1}, noKeys, -1, 0); e != api.ErrType {
			t.Errorf("Top: %d", e)
		}
		for _, n := range []int{0, 257} {
			if l, e := Merge(s, make([]api.Batch, n), noKeys); e != api.ErrType || len(l) != 0 {
				t.Errorf("Merge of %d: %d", n, e)
			}
		}
	}
}

// P19.1: a batch that build.Rows refuses, ahead of the keys.
func TestBatches(t *testing.T) {
	s := schemaOf(t, "a int8, b text")
	right := batchOfTexts(t, s, `2 "x"`, `1 "y"`)
	hurt := func(change func(b *api.Batch)) api.Batch {
		b := batchOfTexts(t, s, `2 "x"`, `1 "y"`)
		change(&b)
		return b
	}
	wrong := map[api.Errno][]api.Batch{
		api.ErrColumns: {hurt(func(b *api.Batch) { b.Rows = 3 }), hurt(func(b *api.Batch) { b.Rows = -1 }), hurt(func(b *api.Batch) { b.Columns = b.Columns[:1] }), hurt(func(b *api.Batch) { b.Columns[1].Length = 1 })},
		api.ErrUtf:     {hurt(func(b *api.Batch) { b.Columns[1].Buffers[2][0] = 0xff })},
		api.ErrShape:   {hurt(func(b *api.Batch) { b.Columns[0].Buffers = nil }), hurt(func(b *api.Batch) { b.Columns[0], b.Columns[1] = b.Columns[1], b.Columns[0] })},
		api.ErrLength:  {hurt(func(b *api.Batch) { b.Columns[1].Nulls = 1; b.Columns[0].Nulls = 1 })},
	}
	for want, l := range wrong {
		for _, b := range l {
			if _, e := build.Rows(s, b); e != want {
				t.Fatalf("build.Rows: %d, not %d", e, want)
			}
			refused(t, "a batch that may not be", want, s, b, noKeys)
			refused(t, "a batch that may not be", want, s, b, nil)
			// Also a batch by whose rows nothing hangs on the column that is wrong.
			refused(t, "a batch that may not be", want, s, b, []api.Key{{Column: 0}})
			if _, e := Sort(s, b, nil, 0); e != want {
				t.Errorf("Sort: %d", e)
			}
			if _, e := Top(s, b, nil, -1, 9); e != want {
				t.Errorf("Top: %d", e)
			}
			if _, e := Merge(s, []api.Batch{right, b}, noKeys); e != want {
				t.Errorf("Merge: %d", e)
			}
		}
	}
	first, second := wrong[api.ErrUtf][0], wrong[api.ErrLength][0]
	if _, e := Merge(s, []api.Batch{right, first, second}, nil); e != api.ErrUtf {
		t.Errorf("the first of two: %d", e)
	}
	if _, e := Merge(s, []api.Batch{second, right, first}, nil); e != api.ErrLength {
		t.Errorf("the first of two: %d", e)
	}
	// What is wrong with a later batch is told ahead of rows that are not in order.
	if _, e := Merge(s, []api.Batch{right, first}, []api.Key{{}}); e != api.ErrUtf {
		t.Errorf("ErrOrder ahead of a batch: %d", e)
	}
	if _, e := Merge(s, []api.Batch{right, right}, []api.Key{{}, {}}); e != api.ErrKey {
		t.Errorf("ErrOrder ahead of ErrKey: %d", e)
	}
}

// P19.1: columns that are too heavy together.
func TestTooHeavy(t *testing.T) {
	s := schemaOf(t, "a dict(0, int8, w text), b dict(1, int8, w text)")
	text := strings.Repeat("x", 600)
	l := make([]api.Value, api.MaxRows)
	for i := range l {
		l[i].Text = text
	}
	b := api.Batch{Rows: len(l), Columns: []api.Data{formOf(t, s.Fields[0], l), formOf(t, s.Fields[1], l)}}
	refused(t, "too heavy together", api.ErrRows, s, b, noKeys)
}

// P19.1: more batches than may be, behind ErrType, ahead of the batches; numbers of workers and rows.
func TestNumbers(t *testing.T) {
	s := schemaOf(t, "a int8")
	empty, none := batchOf(t, s, nil), api.Batch{Rows: -1}
	if l, e := Merge(s, slices.Repeat([]api.Batch{none}, 257), noKeys); e != api.ErrArg || len(l) != 0 {
		t.Errorf("257 batches: %d", e)
	}
	if l, e := Merge(s, slices.Repeat([]api.Batch{empty}, 256), nil); e != api.OK || len(l) != 0 {
		t.Errorf("256 batches: %d", e)
	}
	for _, l := range [][]api.Batch{nil, {}} {
		if l, e := Merge(s, l, nil); e != api.OK || len(l) != 0 {
			t.Errorf("no batches: %d", e)
		}
		if l, e := Merge(s, l, noKeys); e != api.ErrKey || len(l) != 0 {
			t.Errorf("no batches: %d", e)
		}
	}
	for _, workers := range []int{0, -1, 9, math.MinInt, math.MaxInt} {
		if l, e := Sort(s, empty, nil, workers); e != api.ErrArg || len(l) != 0 {
			t.Errorf("%d workers: %d", workers, e)
		}
		for _, n := range []int{-1, 0, 5} {
			if l, e := Top(s, empty, nil, n, workers); e != api.ErrArg || len(l) != 0 {
				t.Errorf("%d workers: %d", workers, e)
			}
		}
	}
	for _, n := range []int{-1, math.MinInt} {
		if l, e := Top(s, empty, nil, n, 1); e != api.ErrArg || len(l) != 0 {
			t.Errorf("the first %d: %d", n, e)
		}
	}
	if l, e := Top(s, empty, nil, math.MaxInt, 1); e != api.OK || len(l) != 0 {
		t.Errorf("the first of none: %d", e)
	}
}

// P19.1: whatever is handed in, each call answers, and with just the error that comes first.
func TestAnything(t *testing.T) {
	c := newChance(21)
	told := map[api.Errno]int{}
	for range 6000 {
		s := c.schema(3)
		b := c.batch(t, s, c.rows(s, c.Intn(5)))
		keys := c.keys(s)
		for c.in(2) {
			keys = append(keys, api.Key{Column: c.Intn(5) - 1})
		}
		if n := len(s.Fields); n > 0 && c.in(4) {
			c.hurt(&s.Fields[c.Intn(n)])
		}
		if n := len(b.Columns); n > 0 && c.in(4) {
			c.hurtArray(&b.Columns[c.Intn(n)])
		}
		if c.in(9) {
			b.Rows += c.Intn(3) - 1
		}
		_, want := build.Rows(s, b)
		if kind.Check(s).Err == api.OK && want == api.OK && !modelKeys(s, keys) {
			want = api.ErrKey
		}
		told[want]++
		for name, call := range calls() {
			n, e := call(s, b, keys)
			if e != want && !(name == "Merge" && want == api.OK && e == api.ErrOrder) || e != api.OK && n != 0 {
				t.Fatalf("%s of %v by %v: %d, %d, not %d", name, s, keys, n, e, want)
			}
		}
	}
	if told[api.OK] < 500 || told[api.ErrKey] < 500 || told[api.ErrType] < 100 || len(told) < 6 {
		t.Errorf("too few of each: %v", told)
	}
}

// modelKeys tells whether keys may be, by the chapter's words.
func modelKeys(s api.Schema, keys []api.Key) bool {
	named := map[string]int{}
	for _, key := range keys {
		if key.Column < 0 || key.Column > len(s.Fields)-1 {
			return false
		}
		named[strconv.Itoa(key.Column)]++
	}
	return len(keys) <= 8 && len(named) == len(keys)
}
