package scan

import (
	"reflect"
	"runtime"
	"slices"
	"testing"
	"unsafe"

	"colonnade/api"
)

// room is where a list lies, with the room behind it.
type room struct{ from, to uintptr }

func roomOf[T any](l []T) room {
	at := uintptr(unsafe.Pointer(unsafe.SliceData(l)))
	return room{at, at + uintptr(cap(l))*unsafe.Sizeof(*new(T))}
}

// ofFields tells the rooms of a list of fields, and of all lists within.
func ofFields(fields []api.Field) []room {
	l := []room{roomOf(fields)}
	for _, f := range fields {
		l = append(l, ofFields(f.Type.Fields)...)
	}
	return l
}

// ofSchema tells the rooms of a schema.
func ofSchema(s api.Schema) []room { return append(ofFields(s.Fields), roomOf(s.Notes)) }

// ofValues tells the rooms of a list of values, and of all lists within.
func ofValues(values []api.Value) []room {
	l := []room{roomOf(values)}
	for _, v := range values {
		l = append(l, ofValues(v.List)...)
	}
	return l
}

// ofExprs tells the rooms of a list of expressions, and of all lists within.
func ofExprs(exprs []api.Expr) []room {
	l := []room{roomOf(exprs)}
	for _, e := range exprs {
		l = slices.Concat(l, ofFields(e.Field.Type.Fields), ofValues(e.Value.List), ofExprs(e.Args))
	}
	return l
}

// ofData tells the rooms of a list of arrays, and of all lists within.
func ofData(list []api.Data) []room {
	l := []room{roomOf(list)}
	for _, d := range list {
		l = append(l, roomOf(d.Buffers))
		for _, b := range d.Buffers {
			l = append(l, roomOf(b))
		}
		l = slices.Concat(l, ofData(d.Children), ofData(d.Dict))
	}
	return l
}

// ofBatches tells the rooms of a list of batches, and of all lists within.
func ofBatches(batches []api.Batch) []room {
	l := []room{roomOf(batches)}
	for _, b := range batches {
		l = append(l, ofData(b.Columns)...)
	}
	return l
}

// apart tells whether none of some rooms shares a byte with another one, or with those of other lists.
func apart(l, others []room) bool {
	all := append(slices.Clone(l), others...)
	slices.SortFunc(all, func(a, b room) int { return int(a.from) - int(b.from) })
	all = slices.DeleteFunc(all, func(r room) bool { return r.from == r.to })
	for i := range all[:max(len(all)-1, 0)] {
		if all[i].to > all[i+1].from {
			return false
		}
	}
	return true
}

// roomy is the same list, with room behind it that is not empty.
func roomy[T any](l []T, behind T) []T { return append(slices.Clone(l), behind, behind)[:len(l)] }

// roomyFields are the same fields in memory of their own, with room behind all lists.
func roomyFields(fields []api.Field) []api.Field {
	l := roomy(fields, api.Field{Name: "behind"})
	for i := range l {
		l[i].Type.Fields = roomyFields(l[i].Type.Fields)
	}
	return l
}

// roomyValues are the same values likewise.
func roomyValues(values []api.Value) []api.Value {
	l := roomy(values, api.Value{Text: "behind"})
	for i := range l {
		l[i].List = roomyValues(l[i].List)
	}
	return l
}

// roomyExprs are the same expressions likewise.
func roomyExprs(exprs []api.Expr) []api.Expr {
	l := roomy(exprs, api.Expr{Name: "behind"})
	for i := range l {
		l[i].Field.Type.Fields, l[i].Value.List, l[i].Args = roomyFields(l[i].Field.Type.Fields), roomyValues(l[i].Value.List), roomyExprs(l[i].Args)
	}
	return l
}

// roomyData are the same arrays likewise.
func roomyData(list []api.Data) []api.Data {
	l := roomy(list, api.Data{Length: 77})
	for i, d := range l {
		l[i].Buffers = roomy(d.Buffers, []byte("behind"))
		for k, b := range d.Buffers {
			l[i].Buffers[k] = roomy(b, 'b')
		}
		l[i].Children, l[i].Dict = roomyData(d.Children), roomyData(d.Dict)
	}
	return l
}

// whole is a list in memory of its own, the room behind it as if it were its own.
func whole[T any](l []T, within func(x *T)) []T {
	l = slices.Clone(l[:cap(l)])
	for i := range l {
		within(&l[i])
	}
	return l
}

func wholeField(f *api.Field) { f.Type.Fields = whole(f.Type.Fields, wholeField) }

func wholeValue(v *api.Value) { v.List = whole(v.List, wholeValue) }

func wholeData(d *api.Data) {
	d.Buffers = whole(d.Buffers, func(b *[]byte) { *b = whole(*b, func(*byte) {}) })
	d.Children, d.Dict = whole(d.Children, wholeData), whole(d.Dict, wholeData)
}

func wholeExpr(e *api.Expr) {
	wholeField(&e.Field)
	wholeValue(&e.Value)
	e.Args = whole(e.Args, wholeExpr)
}

// question is what all calls are asked of.
type question struct {
	table   api.Table
	bytes   []byte // of a file
	columns []string
	filter  []api.Expr // one
}

// roomy is the same in memory of its own, with room behind all lists.
func (q question) roomy() question {
	s := api.Schema{Fields: roomyFields(q.table.Schema.Fields), Notes: roomy(q.table.Schema.Notes, api.Note{Key: "behind"})}
	l := roomy(q.table.Batches, api.Batch{Rows: 77})
	for i := range l {
		l[i].Columns = roomyData(l[i].Columns)
	}
	return question{api.Table{Schema: s, Batches: l}, roomy(q.bytes, 'b'), roomy(q.columns, "behind"), roomyExprs(q.filter)}
}

// whole is the same in memory of its own, the room behind all lists as if it were theirs.
func (q question) whole() question {
	s := api.Schema{Fields: whole(q.table.Schema.Fields, wholeField), Notes: slices.Clone(q.table.Schema.Notes[:cap(q.table.Schema.Notes)])}
	l := whole(q.table.Batches, func(b *api.Batch) { b.Columns = whole(b.Columns, wholeData) })
	return question{api.Table{Schema: s, Batches: l}, slices.Clone(q.bytes[:cap(q.bytes)]), slices.Clone(q.columns[:cap(q.columns)]), whole(q.filter, wholeExpr)}
}

// rooms tells the rooms of all lists.
func (q question) rooms() []room {
	return slices.Concat(ofSchema(q.table.Schema), ofBatches(q.table.Batches), []room{roomOf(q.bytes), roomOf(q.columns)}, ofExprs(q.filter))
}

// answers are what all calls answer.
type answers struct {
	file   []byte
	fault  api.Fault // New's
	schema api.Schema
	blocks []int
	all    []api.Batch
	last   api.Fault // that of All
	table  api.Table
	paths  [][]int
}

// of asks a scan.
func (a *answers) of(s *Scan) {
	a.schema, a.blocks = s.Schema(), s.Blocks()
	for b, x := range s.All() {
		if x.Err == api.OK {
			a.all = append(a.all, b)
		} else {
			a.last = x
		}
	}
	var x api.Fault
	a.table, x = s.Table()
	a.paths = append(a.paths, x.Path, a.last.Path)
}

func (q question) answers(t testing.TB) (a answers, s *Scan) {
	t.Helper()
	a.file, _ = Put(q.table, api.Option{})
	s, a.fault = New(opened(t, q.bytes), q.columns, q.filter[0], 2)
	if s != nil {
		a.of(s)
	}
	return a, s
}

func (a answers) rooms() []room {
	l := slices.Concat([]room{roomOf(a.file), roomOf(a.blocks), roomOf(a.fault.Path)}, ofSchema(a.schema), ofSchema(a.table.Schema), ofBatches(a.table.Batches))
	for _, b := range a.all {
		l = append(l, ofData(b.Columns)...)
	}
	for _, p := range a.paths {
		l = append(l, roomOf(p))
	}
	return l
}

// question makes one.
func (c *chance) question(t testing.TB) question {
	t.Helper()
	table := c.table(t, 4)
	return question{table, put(t, table, c.option()), c.columns(table.Schema), []api.Expr{maker{c, t, table.Schema}.filter()}}
}

// P24.4, R3: what is handed in is not changed, the room behind it neither; no two lists of answers share memory, nor do they with what was handed in: not with the file's bytes either.
func TestMemory(t *testing.T) {
	c := newChance(11)
	for range 450 {
		q := c.question(t).roomy()
		was := q.whole()
		one, _ := q.answers(t)
		two, _ := q.answers(t)
		if !apart(slices.Concat(one.rooms(), two.rooms()), q.rooms()) {
			t.Fatalf("two lists share memory: %+v, %+v, %+v", q, one, two)
		}
		// Till here none of them may be let go: another one might lie in its place.
		runtime.KeepAlive([]any{one, two, q})
		if !reflect.DeepEqual(q.whole(), was) {
			t.Fatalf("what was handed in is changed: %+v", was)
		}
	}
}

// P24.4: nothing is kept: a scan tells the same, whatever is written into what was handed in (but for the file's bytes), and into what it told.
func TestNothingKept(t *testing.T) {
	c := newChance(12)
	for range 450 {
		q := c.question(t).roomy()
		other := q.roomy()
		got, s := q.answers(t)
		want, _ := other.answers(t)
		clear(q.columns[:cap(q.columns)])
		spoilExprs(q.filter)
		for _, b := range q.table.Batches {
			spoilData(b.Columns)
		}
		spoilSchema(q.table.Schema)
		if s == nil {
			continue
		}
		for range 2 {
			again := answers{file: got.file}
			again.of(s)
			if !sameAnswers(again, want) {
				t.Fatalf("%+v, not %+v", again, want)
			}
			spoilSchema(again.schema)
			spoilSchema(again.table.Schema)
			clear(again.blocks)
			for _, b := range slices.Concat(again.all, again.table.Batches) {
				spoilData(b.Columns)
			}
		}
		if !sameAnswers(got, want) {
			t.Fatalf("%+v, not %+v", got, want)
		}
	}
}

// sameAnswers tells whether two scans told the same.
func sameAnswers(a, b answers) bool {
	return string(a.file) == string(b.file) && printed(a.schema) == printed(b.schema) && slices.Equal(a.blocks, b.blocks) && liesList(a.all, a.last) == liesList(b.all, b.last) &&
		printed(a.table.Schema) == printed(b.table.Schema) && liesList(a.table.Batches, api.Fault{}) == liesList(b.table.Batches, api.Fault{})
}

// spoilData writes into all lists of arrays.
func spoilData(l []api.Data) {
	for _, d := range l {
		for _, b := range d.Buffers {
			for i := range b {
				b[i] ^= 0xff
			}
		}
		clear(d.Buffers)
		spoilData(d.Children)
		spoilData(d.Dict)
	}
	clear(l)
}

// spoilSchema writes into all lists of a schema.
func spoilSchema(s api.Schema) {
	spoilFields(s.Fields)
	clear(s.Notes)
}

func spoilFields(l []api.Field) {
	for _, f := range l {
		spoilFields(f.Type.Fields)
	}
	clear(l)
}

// spoilExprs writes into all lists of expressions.
func spoilExprs(l []api.Expr) {
	for _, e := range l {
		spoilFields(e.Field.Type.Fields)
		spoilValues(e.Value.List)
		spoilExprs(e.Args)
	}
	clear(l)
}

func spoilValues(l []api.Value) {
	for _, v := range l {
		spoilValues(v.List)
	}
	clear(l)
}

// What All gives may be written into while it is gone through: what it gives next hangs on nothing of it.
func TestGivenOnce(t *testing.T) {
	table := tableOf(t, "d dict(0, uint8, w text), l list(i int8)", `"x" [1]; "y" [2,3]`, `"y" []; "x" [4]`, `"z" [5]`)
	for _, filter := range []string{"", "begins(d, lit(x text = \"\"))"} {
		s := made(t, opened(t, put(t, table, api.Option{Delta: true})), []string{"l", "d"}, exprOf(t, filter), 3)
		want := texts(t, s)
		for range 2 {
			for b := range s.All() {
				spoilData(b.Columns)
			}
			if got := texts(t, s); !isText(got, want...) || len(got) != 3 {
				t.Errorf("%v, not %v", got, want)
			}
		}
	}
}
