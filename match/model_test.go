package match

import (
	"fmt"
	"reflect"
	"slices"
	"strings"
	"testing"

	"colonnade/api"
	"colonnade/array"
	"colonnade/build"
	"colonnade/kind"
	"colonnade/value"
)

var null = api.Value{Null: true}

// joins are all kinds of joins.
var joins = []int{api.JoinInner, api.JoinLeft, api.JoinFull, api.JoinSemi, api.JoinAnti}

// field reads a field, as `a list(i int8)?`.
func field(t testing.TB, text string) api.Field {
	t.Helper()
	f, e, at := kind.ParseField(text)
	if e != api.OK {
		t.Fatalf("%s: %d at %d", text, e, at)
	}
	return f
}

// schemaOf reads a schema.
func schemaOf(t testing.TB, text string) api.Schema {
	t.Helper()
	s, e, at := kind.Parse(text)
	if e != api.OK {
		t.Fatalf("%s: %d at %d", text, e, at)
	}
	return s
}

// formOf is the build form of values.
func formOf(t testing.TB, f api.Field, l []api.Value) api.Data {
	t.Helper()
	d, e, at := build.Of(f, l)
	if e != api.OK {
		t.Fatalf("Of: %d at %d", e, at)
	}
	return d
}

// values reads values, as `1 null 3`.
func values(t testing.TB, f api.Field, texts string) []api.Value {
	t.Helper()
	var l []api.Value
	for _, s := range strings.Fields(texts) {
		v, e, at := value.Parse(f, s)
		if e != api.OK {
			t.Fatalf("%s: %d at %d", s, e, at)
		}
		l = append(l, v)
	}
	return l
}

// batchOf is a batch whose columns are given as text, as `1 null 3`, in build form.
func batchOf(t testing.TB, s api.Schema, columns ...string) api.Batch {
	t.Helper()
	var b api.Batch
	for k, f := range s.Fields {
		d := formOf(t, f, values(t, f, columns[k]))
		b.Rows, b.Columns = d.Length, append(b.Columns, d)
	}
	return b
}

// sideOf is a schema and a batch of it, given as text.
func sideOf(t testing.TB, schema string, columns ...string) side {
	t.Helper()
	s := schemaOf(t, schema)
	return side{s, batchOf(t, s, columns...)}
}

// pairsIn reads pairs, as `0,1 2,-1`.
func pairsIn(t testing.TB, text string) [][2]int {
	t.Helper()
	var l [][2]int
	for _, s := range strings.Fields(text) {
		var p [2]int
		if _, err := fmt.Sscanf(s, "%d,%d", &p[0], &p[1]); err != nil {
			t.Fatalf("%s: %v", s, err)
		}
		l = append(l, p)
	}
	return l
}

// valuesIn are the values of an array.
func valuesIn(t testing.TB, f api.Field, d api.Data) []api.Value {
	t.Helper()
	a, x := array.Open(f, d)
	if x.Err != api.OK {
		t.Fatalf("Open: %v", x)
	}
	return a.Values()
}

// rowsIn are the rows of a batch, however heavy.
func rowsIn(t testing.TB, s api.Schema, b api.Batch) [][]api.Value {
	t.Helper()
	rows := make([][]api.Value, b.Rows)
	for k, f := range s.Fields {
		for i, v := range valuesIn(t, f, b.Columns[k]) {
			rows[i] = append(rows[i], v)
		}
	}
	return rows
}

// lies tells how arrays lie: those that lie alike are told alike, lists without elements too.
func lies(l ...api.Data) string {
	s := ""
	for _, d := range l {
		s += fmt.Sprintf("%d+%d %d %x (%s) (%s);", d.Offset, d.Length, d.Nulls, d.Buffers, lies(d.Children...), lies(d.Dict...))
	}
	return s
}

// sameBatch tells whether two batches lie alike.
func sameBatch(a, b api.Batch) bool {
	return a.Rows == b.Rows && lies(a.Columns...) == lies(b.Columns...)
}

// sameFields tells whether two lists of fields are the same, names too.
func sameFields(a, b []api.Field) bool {
	return slices.EqualFunc(a, b, func(x, y api.Field) bool {
		return x.Name == y.Name && x.Nullable == y.Nullable && sameType(x.Type, y.Type)
	})
}

// sameType tells whether two types are the same in all.
func sameType(a, b api.Type) bool {
	return a.Kind == b.Kind && a.Width == b.Width && a.ID == b.ID && a.Index == b.Index && sameFields(a.Fields, b.Fields)
}

// modelSame tells whether two values are the same in all.
func modelSame(a, b api.Value) bool {
	x, y := a.List, b.List
	a.List, b.List = nil, nil
	return reflect.DeepEqual(a, b) && slices.EqualFunc(x, y, modelSame)
}

// modelBare is the bare field by the words of chapter 18.
func modelBare(f api.Field) api.Field {
	t := f.Type
	if t.Kind == api.Dict || t.Kind == api.Runs {
		child := modelBare(t.Fields[0])
		child.Name, child.Nullable = f.Name, f.Nullable
		return child
	}
	g := api.Field{Name: f.Name, Nullable: f.Nullable, Type: api.Type{Kind: t.Kind, Width: t.Width}}
	for _, x := range t.Fields {
		g.Type.Fields = append(g.Type.Fields, modelBare(x))
	}
	return g
}

// ask is what a call is asked.
type ask struct {
	join   int
	l, r   side
	k1, k2 []int
}

func (a ask) pairs() ([][2]int, api.Errno) {
	return Pairs(a.join, a.l.s, a.l.b, a.k1, a.r.s, a.r.b, a.k2)
}

func (a ask) schema() (api.Schema, api.Errno) { return Type(a.join, a.l.s, a.k1, a.r.s, a.k2) }

func (a ask) both() (api.Schema, api.Batch, api.Errno) {
	return Join(a.join, a.l.s, a.l.b, a.k1, a.r.s, a.r.b, a.k2)
}

// modelBatch tells a batch's errors by the words of chapter 15.
func modelBatch(x side) api.Errno {
	if x.b.Rows < 0 || x.b.Rows > 4096 || len(x.b.Columns) != len(x.s.Fields) {
		return api.ErrColumns
	}
	for _, d := range x.b.Columns {
		if d.Length != x.b.Rows {
			return api.ErrColumns
		}
	}
	for k, d := range x.b.Columns {
		if e := array.Check(x.s.Fields[k], d).Err; e != api.OK {
			return e
		}
	}
	return api.OK
}

// modelKeys tells what is wrong with the kind and with the keys: 3 to 5.
func (a ask) modelKeys() api.Errno {
	if !slices.Contains(joins, a.join) {
		return api.ErrArg
	}
	if len(a.k1) != len(a.k2) || len(a.k1) < 1 || len(a.k1) > 8 {
		return api.ErrKey
	}
	for i, k := range slices.Concat(a.k1, a.k2) {
		n, ahead := len(a.l.s.Fields), a.k1[:min(i, len(a.k1))]
		if i >= len(a.k1) {
			n, ahead = len(a.r.s.Fields), a.k2[:i-len(a.k1)]
		}
		if k < 0 || k > n-1 || slices.Contains(ahead, k) {
			return api.ErrKey
		}
	}
	for i := range a.k1 {
		f, g := modelBare(a.l.s.Fields[a.k1[i]]), modelBare(a.r.s.Fields[a.k2[i]])
		if !sameType(f.Type, g.Type) {
			return api.ErrUnlike
		}
	}
	return api.OK
}

// modelWrong tells which of the errors 1 to 5 is met.
func (a ask) modelWrong() api.Errno {
	if kind.Check(a.l.s).Err != api.OK || kind.Check(a.r.s).Err != api.OK {
		return api.ErrType
	}
	if e := modelBatch(a.l); e != api.OK {
		return e
	}
	if e := modelBatch(a.r); e != api.OK {
		return e
	}
	return a.modelKeys()
}

// modelPairs tells the pairs: each left row is held against each right one.
func (a ask) modelPairs(t testing.TB) ([][2]int, api.Errno) {
	t.Helper()
	if e := a.modelWrong(); e != api.OK {
		return nil, e
	}
	left, right := rowsIn(t, a.l.s, a.l.b), rowsIn(t, a.r.s, a.r.b)
	meet := func(i, j int) bool {
		for n := range a.k1 {
			v, w := left[i][a.k1[n]], right[j][a.k2[n]]
			if v.Null || w.Null || !modelSame(v, w) {
				return false
			}
		}
		return true
	}
	var inner, all, semi, anti, behind [][2]int
	for i := range left {
		n := len(inner)
		for j := range right {
			if meet(i, j) {
				inner = append(inner, [2]int{i, j})
			}
		}
		if all = append(all, inner[n:]...); len(inner) > n {
			semi = append(semi, [2]int{i, -1})
		} else {
			all, anti = append(all, [2]int{i, -1}), append(anti, [2]int{i, -1})
		}
	}
	for j := range right {
		if !slices.ContainsFunc(inner, func(p [2]int) bool { return p[1] == j }) {
			behind = append(behind, [2]int{-1, j})
		}
	}
	pairs := map[int][][2]int{api.JoinInner: inner, api.JoinLeft: all, api.JoinFull: slices.Concat(all, behind), api.JoinSemi: semi, api.JoinAnti: anti}[a.join]
	if len(pairs) > 4096 {
		return nil, api.ErrRows
	}
	return pairs, api.OK
}

// modelType tells the schema of the join.
func (a ask) modelType() (api.Schema, api.Errno) {
	if kind.Check(a.l.s).Err != api.OK || kind.Check(a.r.s).Err != api.OK {
		return api.Schema{}, api.ErrType
	}
	if e := a.modelKeys(); e != api.OK {
		return api.Schema{}, e
	}
	if a.join == api.JoinSemi || a.join == api.JoinAnti {
		return api.Schema{Fields: a.l.s.Fields}, api.OK
	}
	var out api.Schema
	for k, f := range a.l.s.Fields {
		f = modelBare(f)
		if n := slices.Index(a.k1, k); a.join == api.JoinFull && (n < 0 || a.r.s.Fields[a.k2[n]].Nullable) {
			f.Nullable = true
		}
		out.Fields = append(out.Fields, f)
	}
	for k, f := range a.r.s.Fields {
		if slices.Contains(a.k2, k) {
			continue
		}
		f = modelBare(f)
		if a.join != api.JoinInner {
			f.Nullable = true
		}
		out.Fields = append(out.Fields, f)
	}
	if e := kind.Check(out).Err; e != api.OK {
		return api.Schema{}, e
	}
	return out, api.OK
}

// modelJoin tells the join: build.Batch of its rows.
func (a ask) modelJoin(t testing.TB) (api.Schema, api.Batch, api.Errno) {
	t.Helper()
	pairs, e := a.modelPairs(t)
	if e != api.OK {
		return api.Schema{}, api.Batch{}, e
	}
	out, e := a.modelType()
	if e != api.OK {
		return api.Schema{}, api.Batch{}, e
	}
	left, right := rowsIn(t, a.l.s, a.l.b), rowsIn(t, a.r.s, a.r.b)
	rows := make([][]api.Value, len(pairs))
	for i, p := range pairs {
		for k := range a.l.s.Fields {
			v := null
			if p[0] >= 0 {
				v = left[p[0]][k]
			} else if n := slices.Index(a.k1, k); n >= 0 {
				v = right[p[1]][a.k2[n]]
			}
			rows[i] = append(rows[i], v)
		}
		for k := range a.r.s.Fields {
			if slices.Contains(a.k2, k) || a.join == api.JoinSemi || a.join == api.JoinAnti {
				continue
			}
			v := null
			if p[1] >= 0 {
				v = right[p[1]][k]
			}
			rows[i] = append(rows[i], v)
		}
	}
	b, e, _ := build.Batch(out, rows)
	if e != api.OK {
		return api.Schema{}, api.Batch{}, e
	}
	return out, b, api.OK
}

// holdsPairs holds what Pairs answers against what it must be.
func holdsPairs(t testing.TB, what string, a ask, want [][2]int, err api.Errno) {
	t.Helper()
	if p, e := a.pairs(); e != err || !slices.Equal(p, want) {
		t.Fatalf("Pairs, %s, join %d by %v, %v: %v, %d, not %v, %d", what, a.join, a.k1, a.k2, p, e, want, err)
	}
}

// holdsType holds what Type answers against what it must be.
func holdsType(t testing.TB, what string, a ask, want api.Schema, err api.Errno) {
	t.Helper()
	if s, e := a.schema(); e != err || !sameFields(s.Fields, want.Fields) || len(s.Notes) != 0 {
		t.Fatalf("Type, %s, join %d by %v, %v: %+v, %d, not %+v, %d", what, a.join, a.k1, a.k2, s, e, want, err)
	}
}

// holdsJoin holds what Join answers against what it must be.
func holdsJoin(t testing.TB, what string, a ask, wantS api.Schema, wantB api.Batch, err api.Errno) {
	t.Helper()
	if s, b, e := a.both(); e != err || !sameFields(s.Fields, wantS.Fields) || len(s.Notes) != 0 || !sameBatch(b, wantB) {
		t.Fatalf("Join, %s, join %d by %v, %v: %+v\n%+v, %d\nnot %+v\n%+v, %d", what, a.join, a.k1, a.k2, s, b, e, wantS, wantB, err)
	}
}

// holds holds all calls against the model, and tells the errors of Pairs, Type and Join.
func (a ask) holds(t testing.TB, what string) [3]api.Errno {
	t.Helper()
	pairs, e := a.modelPairs(t)
	holdsPairs(t, what, a, pairs, e)
	s, typed := a.modelType()
	holdsType(t, what, a, s, typed)
	s, b, joined := a.modelJoin(t)
	holdsJoin(t, what, a, s, b, joined)
	return [3]api.Errno{e, typed, joined}
}

// refused holds all calls to be refused with an error, but Type, which may be refused with another one, and to tell nothing else.
func (a ask) refused(t testing.TB, what string, err, typed api.Errno) {
	t.Helper()
	holdsPairs(t, what, a, nil, err)
	holdsJoin(t, what, a, api.Schema{}, api.Batch{}, err)
	if s, e := a.schema(); e != typed || typed != api.OK && len(s.Fields)+len(s.Notes) != 0 {
		t.Fatalf("Type, %s: %+v, %d, not %d", what, s, e, typed)
	}
}
