package order

import (
	"slices"
	"testing"

	"colonnade/api"
)

// example is the schema and the batch of the chapter's examples.
func example(t testing.TB) (api.Schema, api.Batch) {
	s := schemaOf(t, "a int64?, b text")
	return s, batchOfTexts(t, s, `2 "x"`, `null "y"`, `1 "x"`, `2 "a"`)
}

// The chapter's first example.
func TestExamplesOfSort(t *testing.T) {
	s, b := example(t)
	for _, x := range []struct {
		keys []api.Key
		want []int
	}{
		{[]api.Key{{Column: 0}}, []int{1, 2, 0, 3}},
		{[]api.Key{{Column: 0, Last: true}}, []int{2, 0, 3, 1}},
		{[]api.Key{{Column: 0, Down: true}}, []int{1, 0, 3, 2}},
		{[]api.Key{{Column: 0, Down: true, Last: true}}, []int{0, 3, 2, 1}},
		{[]api.Key{{Column: 1}, {Column: 0}}, []int{3, 2, 0, 1}},
		{nil, []int{0, 1, 2, 3}},
		{[]api.Key{}, []int{0, 1, 2, 3}},
	} {
		for workers := 1; workers <= api.MaxWorkers; workers++ {
			if l, e := Sort(s, b, x.keys, workers); e != api.OK || !slices.Equal(l, x.want) {
				t.Errorf("%v, %d workers: %v, %d", x.keys, workers, l, e)
			}
		}
	}
}

// The chapter's second example.
func TestExamplesOfRanks(t *testing.T) {
	s, b := example(t)
	byA, byB := []api.Key{{Column: 0}}, []api.Key{{Column: 1}}
	if l, e := Ranks(s, b, byA); e != api.OK || !slices.Equal(l, []int{2, 0, 1, 2}) {
		t.Errorf("by a: %v, %d", l, e)
	}
	if l, e := Ranks(s, b, byB); e != api.OK || !slices.Equal(l, []int{1, 3, 1, 0}) {
		t.Errorf("by b: %v, %d", l, e)
	}
	if is, e := Sorted(s, b, byA); e != api.OK || is {
		t.Errorf("by a: %v, %d", is, e)
	}
	if is, e := Sorted(s, batchOf(t, s, nil), byA); e != api.OK || !is {
		t.Errorf("no rows: %v, %d", is, e)
	}
	for n, want := range map[int][]int{0: {}, 2: {1, 2}, 4: {1, 2, 0, 3}, 9: {1, 2, 0, 3}} {
		if l, e := Top(s, b, byA, n, 2); e != api.OK || !slices.Equal(l, want) {
			t.Errorf("Top %d: %v, %d", n, l, e)
		}
	}
	if l, e := Top(s, b, byA, -1, 2); e != api.ErrArg || len(l) != 0 {
		t.Errorf("Top -1: %v, %d", l, e)
	}
}

// The chapter's third example.
func TestExamplesOfMerge(t *testing.T) {
	s := schemaOf(t, "a int64?")
	keys := []api.Key{{Column: 0}}
	l, e := Merge(s, []api.Batch{batchOfTexts(t, s, "1", "3"), batchOfTexts(t, s, "1", "2")}, keys)
	if e != api.OK || !slices.Equal(l, [][2]int{{0, 0}, {1, 0}, {1, 1}, {0, 1}}) {
		t.Errorf("%v, %d", l, e)
	}
	if l, e := Merge(s, []api.Batch{batchOfTexts(t, s, "3", "1")}, keys); e != api.ErrOrder || len(l) != 0 {
		t.Errorf("%v, %d", l, e)
	}
}

// The chapter's fourth example.
func TestExamplesOfFaults(t *testing.T) {
	s, b := example(t)
	for _, keys := range [][]api.Key{{{Column: 2}}, {{Column: 0}, {Column: 0}}} {
		if l, e := Sort(s, b, keys, 1); e != api.ErrKey || len(l) != 0 {
			t.Errorf("%v: %v, %d", keys, l, e)
		}
	}
	for _, workers := range []int{0, 9} {
		if l, e := Sort(s, b, nil, workers); e != api.ErrArg || len(l) != 0 {
			t.Errorf("%d workers: %v, %d", workers, l, e)
		}
	}
}

// The document's seventh example of the whole.
func TestExampleOfTheWhole(t *testing.T) {
	s, b := example(t)
	l, e := Sort(s, b, []api.Key{{Column: 0, Down: true, Last: true}}, 3)
	if e != api.OK || !slices.Equal(l, []int{0, 3, 2, 1}) {
		t.Errorf("%v, %d", l, e)
	}
}
