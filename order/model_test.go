package order

import (
	"fmt"
	"strings"
	"testing"

	"colonnade/api"
	"colonnade/build"
	"colonnade/kind"
	"colonnade/value"
)

var null = api.Value{Null: true}

// The bits of floating-point numbers.
const (
	infinity = 0x7ff << 52
	nan      = 0x7ff8 << 48
)

// schemaOf reads a schema.
func schemaOf(t testing.TB, text string) api.Schema {
	t.Helper()
	s, e, at := kind.Parse(text)
	if e != api.OK {
		t.Fatalf("%s: %d at %d", text, e, at)
	}
	return s
}

// formOf is the build form of values.
func formOf(t testing.TB, f api.Field, l []api.Value) api.Data {
	t.Helper()
	d, e, at := build.Of(f, l)
	if e != api.OK {
		t.Fatalf("Of: %d at %d", e, at)
	}
	return d
}

// batchOf is a batch of rows in build form.
func batchOf(t testing.TB, s api.Schema, rows [][]api.Value) api.Batch {
	t.Helper()
	b, e, at := build.Batch(s, rows)
	if e != api.OK {
		t.Fatalf("Batch: %d at %d", e, at)
	}
	return b
}

// batchOfTexts is a batch of rows that are given as text, as `2 "x"`.
func batchOfTexts(t testing.TB, s api.Schema, texts ...string) api.Batch {
	t.Helper()
	var rows [][]api.Value
	for _, text := range texts {
		var row []api.Value
		for k, word := range strings.Fields(text) {
			v, e, at := value.Parse(s.Fields[k], word)
			if e != api.OK {
				t.Fatalf("%s: %d at %d", word, e, at)
			}
			row = append(row, v)
		}
		rows = append(rows, row)
	}
	return batchOf(t, s, rows)
}

// columnOf tells a column of rows.
func columnOf(rows [][]api.Value, k int) []api.Value {
	l := []api.Value{}
	for _, row := range rows {
		l = append(l, row[k])
	}
	return l
}

// modelAhead tells whether a row stands ahead of another one, by the chapter's words.
func modelAhead(s api.Schema, keys []api.Key, a, b []api.Value) bool {
	for _, key := range keys {
		x, y := a[key.Column], b[key.Column]
		switch {
		case value.Same(x, y):
			continue
		case x.Null:
			return !key.Last
		case y.Null:
			return key.Last
		}
		c, e := value.Compare(s.Fields[key.Column], x, y)
		if e != api.OK || c == 0 {
			panic("unlike values that are none, or alike")
		}
		return c < 0 != key.Down
	}
	return false
}

// modelRanks tells of each row how many stand ahead of it.
func modelRanks(s api.Schema, keys []api.Key, rows [][]api.Value) []int {
	l := make([]int, len(rows))
	for i, a := range rows {
		for _, b := range rows {
			if modelAhead(s, keys, b, a) {
				l[i]++
			}
		}
	}
	return l
}

// modelSort tells the one order of rows: a row's place is how many stand ahead of it, and how many are like it and come earlier.
func modelSort(s api.Schema, keys []api.Key, rows [][]api.Value) []int {
	ranks, l := modelRanks(s, keys, rows), make([]int, len(rows))
	earlier := map[int]int{}
	for i, r := range ranks {
		l[r+earlier[r]] = i
		earlier[r]++
	}
	return l
}

// modelSorted tells whether no row stands ahead of one that comes earlier.
func modelSorted(s api.Schema, keys []api.Key, rows [][]api.Value) bool {
	for i := range rows {
		for _, a := range rows[:i] {
			if modelAhead(s, keys, rows[i], a) {
				return false
			}
		}
	}
	return true
}

// lies tells how an array lies: two that lie alike are told alike, lists without elements too.
func lies(d api.Data) string {
	s := fmt.Sprintf("%d+%d %d %x (", d.Offset, d.Length, d.Nulls, d.Buffers)
	for _, x := range append(append([]api.Data(nil), d.Children...), d.Dict...) {
		s += lies(x)
	}
	return fmt.Sprintf("%s %d %d)", s, len(d.Children), len(d.Dict))
}
