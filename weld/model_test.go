package weld

import (
	"testing"

	"colonnade/api"
	"colonnade/array"
	"colonnade/build"
	"colonnade/kind"
	"colonnade/value"
)

// field reads a field's type, as `list(i int8)?`.
func field(t testing.TB, text string) api.Field {
	t.Helper()
	f, e, at := kind.ParseField("f " + text)
	if e != api.OK {
		t.Fatalf("%s: %d at %d", text, e, at)
	}
	return f
}

// schema reads a schema.
func schema(t testing.TB, text string) api.Schema {
	t.Helper()
	s, e, at := kind.Parse(text)
	if e != api.OK {
		t.Fatalf("%s: %d at %d", text, e, at)
	}
	return s
}

// formOf is the build form of values.
func formOf(t testing.TB, f api.Field, l []api.Value) api.Data {
	t.Helper()
	d, e, at := build.Of(f, l)
	if e != api.OK {
		t.Fatalf("Of: %d at %d", e, at)
	}
	return d
}

// data is the build form of values that are given as text.
func data(t testing.TB, f api.Field, texts ...string) api.Data {
	t.Helper()
	var l []api.Value
	for _, s := range texts {
		v, e, at := value.Parse(f, s)
		if e != api.OK {
			t.Fatalf("%s: %d at %d", s, e, at)
		}
		l = append(l, v)
	}
	return formOf(t, f, l)
}

// batchOf is the batch of columns of one length.
func batchOf(l ...api.Data) api.Batch { return api.Batch{Rows: l[0].Length, Columns: l} }

// ints is a batch of one column of int8.
func ints(l ...byte) api.Batch {
	return batchOf(api.Data{Length: len(l), Buffers: [][]byte{nil, l}})
}

// times is a thing again and again.
func times[T any](n int, v T) []T {
	l := make([]T, n)
	for i := range l {
		l[i] = v
	}
	return l
}

// same tells whether two arrays lie alike.
func same(a, b api.Data) bool {
	if a.Length != b.Length || a.Offset != b.Offset || a.Nulls != b.Nulls || len(a.Buffers) != len(b.Buffers) {
		return false
	}
	for k := range a.Buffers {
		if string(a.Buffers[k]) != string(b.Buffers[k]) {
			return false
		}
	}
	return sameAll(a.Children, b.Children) && sameAll(a.Dict, b.Dict)
}

// sameAll tells whether arrays lie alike, one by one.
func sameAll(a, b []api.Data) bool {
	if len(a) != len(b) {
		return false
	}
	for k := range a {
		if !same(a[k], b[k]) {
			return false
		}
	}
	return true
}

// sameBatches tells whether batches have the same rows, which lie alike.
func sameBatches(a, b []api.Batch) bool {
	if len(a) != len(b) {
		return false
	}
	for i := range a {
		if a[i].Rows != b[i].Rows || !sameAll(a[i].Columns, b[i].Columns) {
			return false
		}
	}
	return true
}

// sameSchema tells whether two schemas are the same in all, notes too.
func sameSchema(a, b api.Schema) bool {
	if len(a.Notes) != len(b.Notes) || !kind.AlikeSchemas(a, b) {
		return false
	}
	for i := range a.Notes {
		if a.Notes[i] != b.Notes[i] {
			return false
		}
	}
	return true
}

// isZero tells whether an array is the zero one.
func isZero(d api.Data) bool {
	return same(d, api.Data{}) && d.Buffers == nil && d.Children == nil && d.Dict == nil
}

// holds holds an array against what it must be.
func holds(t testing.TB, what string, d api.Data, e api.Errno, want api.Data, err api.Errno) {
	t.Helper()
	if e != err {
		t.Fatalf("%s: %d, not %d", what, e, err)
	}
	if e != api.OK && !isZero(d) {
		t.Fatalf("%s: an array beside the error %d", what, e)
	}
	if !same(d, want) {
		t.Fatalf("%s: %v, not %v", what, d, want)
	}
}

// holdsBatch holds a batch against what it must be.
func holdsBatch(t testing.TB, what string, b api.Batch, e api.Errno, want api.Batch, err api.Errno) {
	t.Helper()
	if e != api.OK && b.Columns != nil {
		t.Fatalf("%s: columns beside the error %d", what, e)
	}
	holdsBatches(t, what, []api.Batch{b}, e, []api.Batch{want}, err)
}

// holdsBatches holds batches against what they must be.
func holdsBatches(t testing.TB, what string, l []api.Batch, e api.Errno, want []api.Batch, err api.Errno) {
	t.Helper()
	if e != err {
		t.Fatalf("%s: %d, not %d", what, e, err)
	}
	if !sameBatches(l, want) {
		t.Fatalf("%s: %v, not %v", what, l, want)
	}
}

// holdsTable holds a table against what it must be.
func holdsTable(t testing.TB, what string, x api.Table, e api.Errno, want api.Table, err api.Errno) {
	t.Helper()
	holdsBatches(t, what, x.Batches, e, want.Batches, err)
	if !sameSchema(x.Schema, want.Schema) {
		t.Fatalf("%s: the schema %v, not %v", what, x.Schema, want.Schema)
	}
}

// denoted is what an array denotes, or its error.
func denoted(f api.Field, d api.Data) ([]api.Value, api.Errno) {
	a, x := array.Open(f, d)
	if x.Err != api.OK {
		return nil, x.Err
	}
	return a.Values(), api.OK
}

// modelArrays is Arrays by the chapter's words.
func modelArrays(f api.Field, l []api.Data) (api.Data, api.Errno) {
	if kind.CheckField(f).Err != api.OK {
		return api.Data{}, api.ErrType
	}
	var all []api.Value
	for _, d := range l {
		values, e := denoted(f, d)
		if e != api.OK {
			return api.Data{}, e
		}
		all = append(all, values...)
	}
	d, e, _ := build.Of(f, all)
	return d, e
}

// modelRows tells the rows of a batch, or a batch's errors.
func modelRows(s api.Schema, b api.Batch) ([][]api.Value, api.Errno) {
	if b.Rows < 0 || b.Rows > 4096 || len(b.Columns) != len(s.Fields) {
		return nil, api.ErrColumns
	}
	for _, d := range b.Columns {
		if d.Length != b.Rows {
			return nil, api.ErrColumns
		}
	}
	rows := make([][]api.Value, b.Rows)
	for k, d := range b.Columns {
		values, e := denoted(s.Fields[k], d)
		if e != api.OK {
			return nil, e
		}
		for i, v := range values {
			rows[i] = append(rows[i], v)
		}
	}
	return rows, api.OK
}

// modelAll tells the rows of batches, or the errors of the first one that may not be.
func modelAll(s api.Schema, l []api.Batch) ([][]api.Value, api.Errno) {
	if kind.Check(s).Err != api.OK {
		return nil, api.ErrType
	}
	var all [][]api.Value
	for _, b := range l {
		rows, e := modelRows(s, b)
		if e != api.OK {
			return nil, e
		}
		all = append(all, rows...)
	}
	return all, api.OK
}

// modelBatches is Batches by the chapter's words.
func modelBatches(s api.Schema, l []api.Batch) (api.Batch, api.Errno) {
	rows, e := modelAll(s, l)
	if e != api.OK {
		return api.Batch{}, e
	}
	b, e, _ := build.Batch(s, rows)
	return b, e
}

// modelBeside is Beside by the chapter's words.
func modelBeside(s1 api.Schema, b1 api.Batch, s2 api.Schema, b2 api.Batch) (api.Schema, api.Batch, api.Errno) {
	if kind.Check(s1).Err != api.OK || kind.Check(s2).Err != api.OK {
		return api.Schema{}, api.Batch{}, api.ErrType
	}
	if _, e := modelRows(s1, b1); e != api.OK {
		return api.Schema{}, api.Batch{}, e
	}
	if _, e := modelRows(s2, b2); e != api.OK {
		return api.Schema{}, api.Batch{}, e
	}
	if b1.Rows != b2.Rows {
		return api.Schema{}, api.Batch{}, api.ErrUnlike
	}
	var s api.Schema
	s.Fields = append(append(s.Fields, s1.Fields...), s2.Fields...)
	if x := kind.Check(s); x.Err != api.OK {
		return api.Schema{}, api.Batch{}, x.Err
	}
	b := api.Batch{Rows: b1.Rows}
	for k, d := range append(append([]api.Data(nil), b1.Columns...), b2.Columns...) {
		values, _ := denoted(s.Fields[k], d)
		form, e, _ := build.Of(s.Fields[k], values)
		if e != api.OK {
			return api.Schema{}, api.Batch{}, e
		}
		b.Columns = append(b.Columns, form)
	}
	return s, b, api.OK
}

// modelPieces lays rows n by n, if that makes no more than MaxBatches batches.
func modelPieces(s api.Schema, rows [][]api.Value, n int) ([]api.Batch, api.Errno) {
	var lists [][][]api.Value
	for len(rows) > n {
		lists, rows = append(lists, rows[:n]), rows[n:]
	}
	if len(rows) > 0 {
		lists = append(lists, rows)
	}
	if len(lists) > 256 {
		return nil, api.ErrRange
	}
	var l []api.Batch
	for _, list := range lists {
		b, e, _ := build.Batch(s, list)
		if e != api.OK {
			return nil, e
		}
		l = append(l, b)
	}
	return l, api.OK
}

// modelCut is Cut by the chapter's words.
func modelCut(s api.Schema, b api.Batch, n int) ([]api.Batch, api.Errno) {
	rows, e := modelAll(s, []api.Batch{b})
	if e != api.OK {
		return nil, e
	}
	if n < 1 {
		return nil, api.ErrArg
	}
	return modelPieces(s, rows, n)
}

// modelEven is Even by the chapter's words.
func modelEven(x api.Table, n int) (api.Table, api.Errno) {
	if kind.Check(x.Schema).Err != api.OK {
		return api.Table{}, api.ErrType
	}
	if len(x.Batches) > 256 {
		return api.Table{}, api.ErrRange
	}
	rows, e := modelAll(x.Schema, x.Batches)
	if e != api.OK {
		return api.Table{}, e
	}
	if n < 1 || n > 4096 {
		return api.Table{}, api.ErrArg
	}
	l, e := modelPieces(x.Schema, rows, n)
	if e != api.OK {
		return api.Table{}, e
	}
	return api.Table{Schema: x.Schema, Batches: l}, api.OK
}
