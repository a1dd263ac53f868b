package order

import (
	"slices"
	"testing"

	"colonnade/api"
	"colonnade/build"
	"colonnade/pick"
)

// cuts makes places at which n rows are cut into pieces, some of them without rows.
func (c *chance) cuts(n, pieces int) []int {
	l := []int{0, n}
	for range pieces - 1 {
		l = append(l, c.Intn(n+1))
	}
	slices.Sort(l)
	return l
}

// P19.3: pieces of a batch, each taken in the order that Sort tells of it, merge into the order that Sort tells of the whole; P19.1: so by the model too.
func TestMerged(t *testing.T) {
	c := newChance(11)
	for range 2500 {
		s := c.schema(3)
		rows := c.rows(s, c.Intn(16))
		keys := c.keys(s)
		cuts := c.cuts(len(rows), 1+c.Intn(5))
		var batches []api.Batch
		var orders [][]int
		for k, from := range cuts[:len(cuts)-1] {
			b := c.batch(t, s, rows[from:cuts[k+1]])
			l, e := Sort(s, b, keys, 1+c.Intn(8))
			if e != api.OK {
				t.Fatal(e)
			}
			taken, e := pick.TakeRows(s, b, l)
			if e != api.OK {
				t.Fatal(e)
			}
			batches, orders = append(batches, taken), append(orders, l)
		}
		places, e := Merge(s, batches, keys)
		if e != api.OK {
			t.Fatalf("Merge: %d", e)
		}
		got := []int{}
		for _, p := range places {
			got = append(got, cuts[p[0]]+orders[p[0]][p[1]])
		}
		if want := modelSort(s, keys, rows); !slices.Equal(got, want) {
			t.Fatalf("%v by %v: %v, not %v", rows, keys, got, want)
		}
		if l, e := Sort(s, c.batch(t, s, rows), keys, 1+c.Intn(8)); e != api.OK || !slices.Equal(got, l) {
			t.Fatalf("%v by %v: %v, Sort: %v, %d", rows, keys, got, l, e)
		}
	}
}

// modelMerge tells how batches' rows merge: as they are sorted one behind the other.
func modelMerge(s api.Schema, keys []api.Key, batches [][][]api.Value) ([][2]int, api.Errno) {
	var all [][]api.Value
	var places, l [][2]int
	for k, rows := range batches {
		if !modelSorted(s, keys, rows) {
			return nil, api.ErrOrder
		}
		for i, row := range rows {
			all, places = append(all, row), append(places, [2]int{k, i})
		}
	}
	for _, i := range modelSort(s, keys, all) {
		l = append(l, places[i])
	}
	return l, api.OK
}

// P19.1: batches in order or not, however they lie: merged, or ErrOrder.
func TestMergeAny(t *testing.T) {
	c := newChance(12)
	told := map[api.Errno]int{}
	for range 4000 {
		s := c.schema(3)
		keys := c.keys(s)
		var lists [][][]api.Value
		var batches []api.Batch
		for range c.Intn(4) {
			rows := c.rows(s, c.Intn(5))
			lists, batches = append(lists, rows), append(batches, c.batch(t, s, rows))
		}
		want, err := modelMerge(s, keys, lists)
		if l, e := Merge(s, batches, keys); e != err || !slices.Equal(l, want) {
			t.Fatalf("%v by %v: %v, %d, not %v, %d", lists, keys, l, e, want, err)
		}
		told[err]++
	}
	if told[api.OK] < 500 || told[api.ErrOrder] < 500 {
		t.Errorf("too few of each: %v", told)
	}
}

// P19.1: ErrOrder, wherever the rows that are not in order stand, and whatever stands around them; alike ones are in order.
func TestNotInOrder(t *testing.T) {
	s := schemaOf(t, "a int8?")
	up := []api.Key{{}}
	one, wrong := batchOfTexts(t, s, "null", "1", "1", "2"), batchOfTexts(t, s, "1", "2", "2", "null")
	for k := range 5 {
		l := slices.Repeat([]api.Batch{one}, 5)
		if places, e := Merge(s, l, up); e != api.OK || len(places) != 20 {
			t.Errorf("in order: %d", e)
		}
		l[k] = wrong
		if places, e := Merge(s, l, up); e != api.ErrOrder || len(places) != 0 {
			t.Errorf("batch %d: %d", k, e)
		}
	}
	if l, e := Merge(s, []api.Batch{wrong, wrong}, []api.Key{{Last: true}}); e != api.OK || !slices.Equal(l, [][2]int{{0, 0}, {1, 0}, {0, 1}, {0, 2}, {1, 1}, {1, 2}, {0, 3}, {1, 3}}) {
		t.Errorf("nulls last: %v, %d", l, e)
	}
	if l, e := Merge(s, []api.Batch{wrong}, nil); e != api.OK || len(l) != 4 {
		t.Errorf("no keys: %v, %d", l, e)
	}
	if _, e := Merge(s, []api.Batch{wrong}, []api.Key{{Last: true, Down: true}}); e != api.ErrOrder {
		t.Errorf("down: %d", e)
	}
}

// P19.1: as many batches as may be, of as many rows as may be.
func TestMergeMany(t *testing.T) {
	s := schemaOf(t, "a int32, b text")
	var batches []api.Batch
	for k := range api.MaxBatches {
		rows := make([][]api.Value, api.MaxRows)
		for i := range rows {
			rows[i] = []api.Value{{Num: int64(i*(k%7+1) - 9000)}, {}}
		}
		batches = append(batches, batchOf(t, s, rows))
	}
	l, e := Merge(s, batches, []api.Key{{Column: 1}, {Column: 0}})
	if e != api.OK || len(l) != api.MaxBatches*api.MaxRows {
		t.Fatalf("%d places, %d", len(l), e)
	}
	number := func(p [2]int) int { return p[1]*(p[0]%7+1) - 9000 }
	for i, p := range l[1:] {
		a := l[i]
		if number(a) > number(p) || number(a) == number(p) && (a[0] > p[0] || a[0] == p[0] && a[1] >= p[1]) {
			t.Fatalf("place %d: %v, then %v", i, a, p)
		}
	}
}

// heavyBatch makes a batch of few bytes whose rows are heavy, and alike.
func heavyBatch(t *testing.T, s api.Schema) api.Batch {
	text := string(make([]byte, 1000))
	rows := make([][]api.Value, api.MaxRows)
	for i := range rows {
		rows[i] = []api.Value{{Text: text}}
	}
	b, e, _ := build.Batch(s, rows)
	if e != api.OK {
		t.Fatal(e)
	}
	return b
}

// P19.1: as many batches as may be, as heavy as may be.
func TestMergeHeavy(t *testing.T) {
	s := schemaOf(t, "a dict(0, uint8, w bytes)")
	batches := slices.Repeat([]api.Batch{heavyBatch(t, s)}, api.MaxBatches)
	l, e := Merge(s, batches, []api.Key{{}})
	if e != api.OK || len(l) != api.MaxBatches*api.MaxRows {
		t.Fatalf("%d places, %d", len(l), e)
	}
	for i, p := range l {
		if p != [2]int{i / api.MaxRows, i % api.MaxRows} {
			t.Fatalf("place %d: %v", i, p)
		}
	}
}

// P19.4: a rank is the first place in Sort's answer of a row that is like it; a batch is in order just if its ranks never fall.
func TestRanks(t *testing.T) {
	c := newChance(13)
	inOrder := 0
	for range 4000 {
		s := c.schema(3)
		rows := c.rows(s, c.Intn(6))
		keys := c.keys(s)
		b := c.batch(t, s, rows)
		order, e := Sort(s, b, keys, 2)
		ranks, f := Ranks(s, b, keys)
		is, g := Sorted(s, b, keys)
		if e != api.OK || f != api.OK || g != api.OK || len(ranks) != len(rows) {
			t.Fatal(e, f, g)
		}
		for i, r := range ranks {
			isLike := func(j int) bool {
				return !modelAhead(s, keys, rows[i], rows[j]) && !modelAhead(s, keys, rows[j], rows[i])
			}
			if r != slices.IndexFunc(order, isLike) {
				t.Fatalf("%v by %v: %v, Sort: %v", rows, keys, ranks, order)
			}
		}
		if is != slices.IsSorted(ranks) {
			t.Fatalf("%v by %v: ranks %v, in order: %v", rows, keys, ranks, is)
		}
		if is {
			inOrder++
		}
	}
	if inOrder < 500 || inOrder > 3500 {
		t.Errorf("%d of 4000 in order", inOrder)
	}
}
