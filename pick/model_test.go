package pick

import (
	"testing"

	"colonnade/api"
	"colonnade/array"
	"colonnade/build"
	"colonnade/kind"
	"colonnade/value"
)

// The fields of an index and of a mask, by the chapter's words.
var (
	indexField = api.Field{Name: "rows", Nullable: true, Type: api.Type{Kind: api.Int64}}
	maskField  = api.Field{Name: "on", Nullable: true, Type: api.Type{Kind: api.Bool}}
)

var null = api.Value{Null: true}

// field reads a field's type, as `list(i int8)?`.
func field(t testing.TB, text string) api.Field {
	t.Helper()
	f, e, at := kind.ParseField("f " + text)
	if e != api.OK {
		t.Fatalf("%s: %d at %d", text, e, at)
	}
	return f
}

// schema reads a schema.
func schema(t testing.TB, text string) api.Schema {
	t.Helper()
	s, e, at := kind.Parse(text)
	if e != api.OK {
		t.Fatalf("%s: %d at %d", text, e, at)
	}
	return s
}

// formed is the build form of values.
func formed(t testing.TB, f api.Field, l []api.Value) api.Data {
	t.Helper()
	d, e, at := build.Of(f, l)
	if e != api.OK {
		t.Fatalf("Of: %d at %d", e, at)
	}
	return d
}

// data is the build form of values that are given as text.
func data(t testing.TB, f api.Field, texts ...string) api.Data {
	t.Helper()
	var l []api.Value
	for _, s := range texts {
		v, e, at := value.Parse(f, s)
		if e != api.OK {
			t.Fatalf("%s: %d at %d", s, e, at)
		}
		l = append(l, v)
	}
	return formed(t, f, l)
}

// index is an array of numbers, in build form.
func index(t testing.TB, l ...int) api.Data {
	t.Helper()
	var all []api.Value
	for _, n := range l {
		all = append(all, api.Value{Num: int64(n)})
	}
	return formed(t, indexField, all)
}

// times is a value again and again.
func times[T any](n int, v T) []T {
	l := make([]T, n)
	for i := range l {
		l[i] = v
	}
	return l
}

// same tells whether two arrays lie alike.
func same(a, b api.Data) bool {
	if a.Length != b.Length || a.Offset != b.Offset || a.Nulls != b.Nulls || len(a.Buffers) != len(b.Buffers) {
		return false
	}
	for k := range a.Buffers {
		if string(a.Buffers[k]) != string(b.Buffers[k]) {
			return false
		}
	}
	return sameAll(a.Children, b.Children) && sameAll(a.Dict, b.Dict)
}

// sameAll tells whether arrays lie alike, one by one.
func sameAll(a, b []api.Data) bool {
	if len(a) != len(b) {
		return false
	}
	for k := range a {
		if !same(a[k], b[k]) {
			return false
		}
	}
	return true
}

// sameBatch tells whether two batches have the same rows, which lie alike.
func sameBatch(a, b api.Batch) bool { return a.Rows == b.Rows && sameAll(a.Columns, b.Columns) }

// isZero tells whether an array is the zero one.
func isZero(d api.Data) bool {
	return same(d, api.Data{}) && d.Buffers == nil && d.Children == nil && d.Dict == nil
}

// holds holds an answer against what it must be.
func holds(t testing.TB, what string, d api.Data, e api.Errno, want api.Data, err api.Errno) {
	t.Helper()
	if e != err {
		t.Fatalf("%s: %d, not %d", what, e, err)
	}
	if e != api.OK && !isZero(d) {
		t.Fatalf("%s: an array beside the error %d", what, e)
	}
	if !same(d, want) {
		t.Fatalf("%s: %v, not %v", what, d, want)
	}
}

// holdsBatch holds a batch against what it must be.
func holdsBatch(t testing.TB, what string, b api.Batch, e api.Errno, want api.Batch, err api.Errno) {
	t.Helper()
	if e != err {
		t.Fatalf("%s: %d, not %d", what, e, err)
	}
	if e != api.OK && b.Columns != nil {
		t.Fatalf("%s: columns beside the error %d", what, e)
	}
	if !sameBatch(b, want) {
		t.Fatalf("%s: %v, not %v", what, b, want)
	}
}

// denoted is what an array denotes, or its error.
func denoted(f api.Field, d api.Data) ([]api.Value, api.Errno) {
	a, x := array.Open(f, d)
	if x.Err != api.OK {
		return nil, x.Err
	}
	return a.Values(), api.OK
}

// modelLets tells whether a field lets a null.
func modelLets(f api.Field) bool { return value.Fits(f, null) == api.OK }

// modelBuilt is the build form, or the error that chapter 9 tells.
func modelBuilt(f api.Field, l []api.Value) (api.Data, api.Errno) {
	d, e, _ := build.Of(f, l)
	return d, e
}

// modelTake is Take by the chapter's words.
func modelTake(f api.Field, d, index api.Data) (api.Data, api.Errno) {
	l, e := denoted(f, d)
	if e != api.OK {
		return api.Data{}, e
	}
	numbers, e := denoted(indexField, index)
	if e != api.OK {
		return api.Data{}, e
	}
	var picked []api.Value
	for _, n := range numbers {
		switch {
		case n.Null && !modelLets(f):
			return api.Data{}, api.ErrValue
		case n.Null:
			picked = append(picked, null)
		case n.Num < 0 || n.Num >= int64(d.Length):
			return api.Data{}, api.ErrRange
		default:
			picked = append(picked, l[n.Num])
		}
	}
	return modelBuilt(f, picked)
}

// modelFilter is Filter by the chapter's words.
func modelFilter(f api.Field, d, mask api.Data) (api.Data, api.Errno) {
	l, e := denoted(f, d)
	if e != api.OK {
		return api.Data{}, e
	}
	on, e := denoted(maskField, mask)
	if e != api.OK {
		return api.Data{}, e
	}
	if mask.Length != d.Length {
		return api.Data{}, api.ErrUnlike
	}
	var picked []api.Value
	for i, v := range l {
		if !on[i].Null && on[i].Num == 1 {
			picked = append(picked, v)
		}
	}
	return modelBuilt(f, picked)
}

// modelCut is Cut by the chapter's words.
func modelCut(f api.Field, d api.Data, from, n int) (api.Data, api.Errno) {
	l, e := denoted(f, d)
	if e != api.OK {
		return api.Data{}, e
	}
	if from < 0 || n < 0 || uint64(from)+uint64(n) > uint64(d.Length) {
		return api.Data{}, api.ErrRange
	}
	return modelBuilt(f, l[from:from+n])
}

// modelBatch tells the columns' values of a batch, or what build.Rows tells but for the weight of all columns together.
func modelBatch(s api.Schema, b api.Batch) ([][]api.Value, api.Errno) {
	if kind.Check(s).Err != api.OK {
		return nil, api.ErrType
	}
	if b.Rows < 0 || b.Rows > 4096 || len(b.Columns) != len(s.Fields) {
		return nil, api.ErrColumns
	}
	for _, d := range b.Columns {
		if d.Length != b.Rows {
			return nil, api.ErrColumns
		}
	}
	var lists [][]api.Value
	for k, d := range b.Columns {
		l, e := denoted(s.Fields[k], d)
		if e != api.OK {
			return nil, e
		}
		lists = append(lists, l)
	}
	return lists, api.OK
}

// modelColumns builds columns, in their order.
func modelColumns(s api.Schema, rows int, lists [][]api.Value) (api.Batch, api.Errno) {
	b := api.Batch{Rows: rows}
	for k, l := range lists {
		d, e := modelBuilt(s.Fields[k], l)
		if e != api.OK {
			return api.Batch{}, e
		}
		b.Columns = append(b.Columns, d)
	}
	return b, api.OK
}

// modelTakeRows is TakeRows by the chapter's words.
func modelTakeRows(s api.Schema, b api.Batch, rows []int) (api.Batch, api.Errno) {
	lists, e := modelBatch(s, b)
	if e != api.OK {
		return api.Batch{}, e
	}
	if len(rows) > 4096 {
		return api.Batch{}, api.ErrRows
	}
	lets := true
	for _, f := range s.Fields {
		lets = lets && modelLets(f)
	}
	picked := make([][]api.Value, len(lists))
	for _, n := range rows {
		if n < -1 || n >= b.Rows {
			return api.Batch{}, api.ErrRange
		}
		if n == -1 && !lets {
			return api.Batch{}, api.ErrValue
		}
		for k, l := range lists {
			v := null
			if n >= 0 {
				v = l[n]
			}
			picked[k] = append(picked[k], v)
		}
	}
	return modelColumns(s, len(rows), picked)
}

// modelFilterRows is FilterRows by the chapter's words.
func modelFilterRows(s api.Schema, b api.Batch, mask api.Data) (api.Batch, api.Errno) {
	lists, e := modelBatch(s, b)
	if e != api.OK {
		return api.Batch{}, e
	}
	on, e := denoted(maskField, mask)
	if e != api.OK {
		return api.Batch{}, e
	}
	if mask.Length != b.Rows {
		return api.Batch{}, api.ErrUnlike
	}
	rows, picked := 0, make([][]api.Value, len(lists))
	for i, v := range on {
		if v.Null || v.Num == 0 {
			continue
		}
		rows++
		for k, l := range lists {
			picked[k] = append(picked[k], l[i])
		}
	}
	return modelColumns(s, rows, picked)
}
