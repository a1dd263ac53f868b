package group

import (
	"fmt"
	"reflect"
	"slices"
	"strings"
	"testing"

	"colonnade/api"
	"colonnade/array"
	"colonnade/build"
	"colonnade/fold"
	"colonnade/kind"
	"colonnade/value"
)

var null = api.Value{Null: true}

// field reads a field, as `a list(i int8)?`.
func field(t testing.TB, text string) api.Field {
	t.Helper()
	f, e, at := kind.ParseField(text)
	if e != api.OK {
		t.Fatalf("%s: %d at %d", text, e, at)
	}
	return f
}

// schemaOf reads a schema.
func schemaOf(t testing.TB, text string) api.Schema {
	t.Helper()
	s, e, at := kind.Parse(text)
	if e != api.OK {
		t.Fatalf("%s: %d at %d", text, e, at)
	}
	return s
}

// formOf is the build form of values.
func formOf(t testing.TB, f api.Field, l []api.Value) api.Data {
	t.Helper()
	d, e, at := build.Of(f, l)
	if e != api.OK {
		t.Fatalf("Of: %d at %d", e, at)
	}
	return d
}

// values reads values, as `1 null 3`.
func values(t testing.TB, f api.Field, texts string) []api.Value {
	t.Helper()
	var l []api.Value
	for _, s := range strings.Fields(texts) {
		v, e, at := value.Parse(f, s)
		if e != api.OK {
			t.Fatalf("%s: %d at %d", s, e, at)
		}
		l = append(l, v)
	}
	return l
}

// batchOf is a batch whose columns are given as text, as `1 null 3`, in build form.
func batchOf(t testing.TB, s api.Schema, columns ...string) api.Batch {
	t.Helper()
	var b api.Batch
	for k, f := range s.Fields {
		d := formOf(t, f, values(t, f, columns[k]))
		b.Rows, b.Columns = d.Length, append(b.Columns, d)
	}
	return b
}

// valuesIn are the values of an array.
func valuesIn(t testing.TB, f api.Field, d api.Data) []api.Value {
	t.Helper()
	a, x := array.Open(f, d)
	if x.Err != api.OK {
		t.Fatalf("Open: %v", x)
	}
	return a.Values()
}

// textOf tells the values of an array, as values takes them.
func textOf(t testing.TB, f api.Field, d api.Data) string {
	t.Helper()
	var l []string
	for _, v := range valuesIn(t, f, d) {
		s, e := value.Print(f, v)
		if e != api.OK {
			t.Fatalf("Print: %d", e)
		}
		l = append(l, s)
	}
	return strings.Join(l, " ")
}

// lies tells how arrays lie: those that lie alike are told alike, lists without elements too.
func lies(l ...api.Data) string {
	s := ""
	for _, d := range l {
		s += fmt.Sprintf("%d+%d %d %x (%s) (%s);", d.Offset, d.Length, d.Nulls, d.Buffers, lies(d.Children...), lies(d.Dict...))
	}
	return s
}

// sameBatch tells whether two batches lie alike.
func sameBatch(a, b api.Batch) bool {
	return a.Rows == b.Rows && lies(a.Columns...) == lies(b.Columns...)
}

// sameFields tells whether two lists of fields are the same, names too.
func sameFields(a, b []api.Field) bool {
	return slices.EqualFunc(a, b, func(x, y api.Field) bool {
		return x.Name == y.Name && x.Nullable == y.Nullable && x.Type.Kind == y.Type.Kind && x.Type.Width == y.Type.Width &&
			x.Type.ID == y.Type.ID && x.Type.Index == y.Type.Index && sameFields(x.Type.Fields, y.Type.Fields)
	})
}

// modelSame tells whether two values are the same in all.
func modelSame(a, b api.Value) bool {
	x, y := a.List, b.List
	a.List, b.List = nil, nil
	return reflect.DeepEqual(a, b) && slices.EqualFunc(x, y, modelSame)
}

// modelNumbers tells the groups of rows, each held against all that come earlier.
func modelNumbers(rows [][]api.Value, by []int) (of, firsts []int) {
	of = make([]int, len(rows))
	for i := range rows {
		isLike := func(j int) bool {
			return !slices.ContainsFunc(by, func(k int) bool { return !modelSame(rows[i][k], rows[j][k]) })
		}
		n := slices.IndexFunc(firsts, isLike)
		if n < 0 {
			n = len(firsts)
			firsts = append(firsts, i)
		}
		of[i] = n
	}
	return of, firsts
}

// modelBy tells what is wrong with the columns by which is grouped.
func modelBy(s api.Schema, by []int) api.Errno {
	if len(by) > 8 {
		return api.ErrArg
	}
	named := map[int]int{}
	for _, k := range by {
		if k < 0 || k > len(s.Fields)-1 {
			return api.ErrRange
		}
		named[k]++
		if named[k] == 2 {
			return api.ErrArg
		}
	}
	return api.OK
}

// modelSchema tells the schema of what comes out.
func modelSchema(s api.Schema, by []int, aggs []api.Agg) (api.Schema, api.Errno) {
	if len(aggs) > 16 {
		return api.Schema{}, api.ErrArg
	}
	var out api.Schema
	for _, k := range by {
		out.Fields = append(out.Fields, s.Fields[k])
	}
	for _, agg := range aggs {
		if agg.Column < 0 || agg.Column > len(s.Fields)-1 {
			return api.Schema{}, api.ErrRange
		}
		f, e := fold.Type(agg.Op, s.Fields[agg.Column])
		if e != api.OK {
			return api.Schema{}, e
		}
		out.Fields = append(out.Fields, api.Field{Name: agg.Name, Nullable: f.Nullable, Type: f.Type})
	}
	if kind.Check(out).Err != api.OK {
		return api.Schema{}, api.ErrType
	}
	return out, api.OK
}

// modelGroup tells what comes out of a batch of rows, each group's rows folded where they lie, one by one.
func modelGroup(t testing.TB, s api.Schema, b api.Batch, rows [][]api.Value, by []int, aggs []api.Agg) (api.Schema, api.Batch, api.Errno) {
	t.Helper()
	out, e := modelSchema(s, by, aggs)
	if e != api.OK {
		return api.Schema{}, api.Batch{}, e
	}
	of, firsts := modelNumbers(rows, by)
	c := api.Batch{Rows: len(firsts)}
	for i, f := range out.Fields {
		var l []api.Value
		for n, first := range firsts {
			v := null
			if i < len(by) {
				v = rows[first][by[i]]
			} else if v, e = modelFold(t, s, b, of, n, aggs[i-len(by)]); e != api.OK {
				return api.Schema{}, api.Batch{}, e
			}
			l = append(l, v)
		}
		d, e, _ := build.Of(f, l)
		if e != api.OK {
			return api.Schema{}, api.Batch{}, e
		}
		c.Columns = append(c.Columns, d)
	}
	return out, c, api.OK
}

// modelFold tells what an aggregate makes of the rows of a group.
func modelFold(t testing.TB, s api.Schema, b api.Batch, of []int, n int, agg api.Agg) (api.Value, api.Errno) {
	t.Helper()
	x, e := fold.New(agg.Op, s.Fields[agg.Column])
	if e != api.OK {
		t.Fatalf("New: %d", e)
	}
	for i, m := range of {
		if m != n {
			continue
		}
		if e := x.AddRows(b.Columns[agg.Column], []int{i}); e != api.OK {
			t.Fatalf("AddRows: %d", e)
		}
	}
	return x.Value()
}

// holdsGroup holds what Group answers against what it must be.
func holdsGroup(t testing.TB, what string, s, wantS api.Schema, b, wantB api.Batch, e, want api.Errno) {
	t.Helper()
	if e != want || !sameFields(s.Fields, wantS.Fields) || len(s.Notes) != 0 || !sameBatch(b, wantB) {
		t.Fatalf("%s: %+v\n%+v, %d\nnot %+v\n%+v, %d", what, s, b, e, wantS, wantB, want)
	}
}
