package stats

import (
	"reflect"
	"runtime"
	"slices"
	"strings"
	"testing"
	"unsafe"

	"colonnade/api"
)

// room is where a list, or a text, lies, with the room behind it.
type room struct{ from, to uintptr }

func roomOf[T any](l []T) room {
	at := uintptr(unsafe.Pointer(unsafe.SliceData(l)))
	return room{at, at + uintptr(cap(l))*unsafe.Sizeof(*new(T))}
}

// roomOfText is that of a text of two bytes at least: Go keeps the shorter ones itself.
func roomOfText(s string) room {
	if len(s) < 2 {
		return room{}
	}
	at := uintptr(unsafe.Pointer(unsafe.StringData(s)))
	return room{at, at + uintptr(len(s))}
}

// ofFields tells the rooms of a list of fields, and of all lists within.
func ofFields(fields []api.Field) []room {
	l := []room{roomOf(fields)}
	for _, f := range fields {
		l = append(l, ofFields(f.Type.Fields)...)
	}
	return l
}

// ofValues tells the rooms of a list of values, and of all lists and texts within.
func ofValues(values []api.Value) []room {
	l := []room{roomOf(values)}
	for _, v := range values {
		l = append(append(l, roomOfText(v.Text)), ofValues(v.List)...)
	}
	return l
}

// ofStats tells the rooms of a list of stats likewise.
func ofStats(stats []api.Stat) []room {
	l := []room{roomOf(stats)}
	for _, x := range stats {
		for _, v := range []api.Value{x.Least, x.Most} {
			l = append(append(l, roomOfText(v.Text)), ofValues(v.List)...)
		}
	}
	return l
}

// ofData tells the rooms of a list of arrays, and of all lists within.
func ofData(list []api.Data) []room {
	l := []room{roomOf(list)}
	for _, d := range list {
		l = append(l, roomOf(d.Buffers))
		for _, b := range d.Buffers {
			l = append(l, roomOf(b))
		}
		l = slices.Concat(l, ofData(d.Children), ofData(d.Dict))
	}
	return l
}

// ofExprs tells the rooms of a list of expressions, and of all lists within.
func ofExprs(exprs []api.Expr) []room {
	l := []room{roomOf(exprs)}
	for _, e := range exprs {
		l = slices.Concat(l, ofFields(e.Field.Type.Fields), ofValues(e.Value.List), ofExprs(e.Args))
	}
	return l
}

// apart tells whether none of some rooms shares a byte with another one, or with those of other lists.
func apart(l, others []room) bool {
	for i, a := range l {
		for _, b := range slices.Concat(l[:i], others) {
			if a.from < a.to && b.from < b.to && a.from < b.to && b.from < a.to {
				return false
			}
		}
	}
	return true
}

// roomy is the same list, with room behind it that is not empty.
func roomy[T any](l []T, behind T) []T { return append(slices.Clone(l), behind, behind)[:len(l)] }

// roomyFields are the same fields in memory of their own, with room behind all lists.
func roomyFields(fields []api.Field) []api.Field {
	l := roomy(fields, api.Field{Name: "behind"})
	for i := range l {
		l[i].Type.Fields = roomyFields(l[i].Type.Fields)
	}
	return l
}

// roomyValues are the same values likewise.
func roomyValues(values []api.Value) []api.Value {
	l := roomy(values, api.Value{Text: "behind"})
	for i := range l {
		l[i].List = roomyValues(l[i].List)
	}
	return l
}

// roomyStats are the same stats likewise, with room in lists that have nothing.
func roomyStats(stats []api.Stat) []api.Stat {
	l := roomy(stats, api.Stat{Rows: 77})
	for i := range l {
		l[i].Least.List, l[i].Most.List = roomyValues(l[i].Least.List), roomyValues(l[i].Most.List)
	}
	return l
}

// roomyData are the same arrays likewise.
func roomyData(list []api.Data) []api.Data {
	l := roomy(list, api.Data{Length: 77})
	for i, d := range l {
		l[i].Buffers = roomy(d.Buffers, []byte("behind"))
		for k, b := range d.Buffers {
			l[i].Buffers[k] = roomy(b, 'b')
		}
		l[i].Children, l[i].Dict = roomyData(d.Children), roomyData(d.Dict)
	}
	return l
}

// roomyExprs are the same expressions likewise.
func roomyExprs(exprs []api.Expr) []api.Expr {
	l := roomy(exprs, api.Expr{Name: "behind"})
	for i := range l {
		l[i].Field.Type.Fields, l[i].Value.List, l[i].Args = roomyFields(l[i].Field.Type.Fields), roomyValues(l[i].Value.List), roomyExprs(l[i].Args)
	}
	return l
}

// whole is a list in memory of its own, the room behind it as if it were its own.
func whole[T any](l []T, within func(x *T)) []T {
	l = slices.Clone(l[:cap(l)])
	for i := range l {
		within(&l[i])
	}
	return l
}

func wholeField(f *api.Field) { f.Type.Fields = whole(f.Type.Fields, wholeField) }

func wholeValue(v *api.Value) { v.List = whole(v.List, wholeValue) }

func wholeStat(x *api.Stat) {
	wholeValue(&x.Least)
	wholeValue(&x.Most)
}

func wholeData(d *api.Data) {
	d.Buffers = whole(d.Buffers, func(b *[]byte) { *b = whole(*b, func(*byte) {}) })
	d.Children, d.Dict = whole(d.Children, wholeData), whole(d.Dict, wholeData)
}

func wholeExpr(e *api.Expr) {
	wholeField(&e.Field)
	wholeValue(&e.Value)
	e.Args = whole(e.Args, wholeExpr)
}

// question is what all calls are asked of; data is an array a field, exprs one expression, two stats a field.
type question struct {
	s     api.Schema
	data  []api.Data
	exprs []api.Expr
	stats []api.Stat
	other []api.Stat
	bytes []byte
}

// roomy is the same in memory of its own, with room behind all lists.
func (q question) roomy() question {
	s := api.Schema{Fields: roomyFields(q.s.Fields), Notes: roomy(q.s.Notes, api.Note{Key: "behind"})}
	return question{s, roomyData(q.data), roomyExprs(q.exprs), roomyStats(q.stats), roomyStats(q.other), roomy(q.bytes, 'b')}
}

// whole is the same in memory of its own, the room behind all lists as if it were theirs.
func (q question) whole() question {
	s := api.Schema{Fields: whole(q.s.Fields, wholeField), Notes: slices.Clone(q.s.Notes[:cap(q.s.Notes)])}
	return question{s, whole(q.data, wholeData), whole(q.exprs, wholeExpr), whole(q.stats, wholeStat), whole(q.other, wholeStat), slices.Clone(q.bytes[:cap(q.bytes)])}
}

// rooms tells the rooms of all lists.
func (q question) rooms() []room {
	return slices.Concat(ofFields(q.s.Fields), []room{roomOf(q.s.Notes), roomOf(q.bytes)}, ofData(q.data), ofExprs(q.exprs), ofStats(q.stats), ofStats(q.other))
}

// answers are what all calls answer.
type answers struct {
	of, merged, got []api.Stat
	may             bool
	bytes           []byte
}

func (q question) answers() (a answers) {
	for i, f := range q.s.Fields {
		x, _ := Of(f, q.data[i])
		y, _ := Merge(f, q.stats[i], q.other[i])
		a.of, a.merged = append(a.of, x), append(a.merged, y)
	}
	a.may, _ = May(q.s, q.exprs[0], q.stats)
	a.bytes, _ = Put(q.s, q.stats)
	a.got, _ = Get(q.s, q.bytes)
	return a
}

func (a answers) rooms() []room {
	return slices.Concat(ofStats(a.of), ofStats(a.merged), ofStats(a.got), []room{roomOf(a.bytes)})
}

// question makes one.
func (c *chance) question(t testing.TB) question {
	t.Helper()
	s := c.schema(t, 3)
	b, _ := c.batch(t, s, c.Intn(5))
	q := question{s: s, data: b.Columns, exprs: []api.Expr{maker{c, t, s}.truth(3)}, stats: c.stats(s), other: c.stats(s)}
	q.bytes, _ = Put(s, c.stats(s))
	return q
}

// P23.6: what is handed in is not changed, the room behind it neither; no two lists, and no two texts, of answers share memory, nor do they with what was handed in.
func TestMemory(t *testing.T) {
	c := newChance(11)
	for range 3000 {
		q := c.question(t).roomy()
		was := q.whole()
		one, two := q.answers(), q.answers()
		if !apart(slices.Concat(one.rooms(), two.rooms()), q.rooms()) {
			t.Fatalf("two lists share memory: %+v, %+v, %+v", q, one, two)
		}
		// Till here none of them may be let go: another one might lie in its place.
		runtime.KeepAlive([]any{one, two, q})
		if !reflect.DeepEqual(q.whole(), was) {
			t.Fatalf("what was handed in is changed: %+v", was)
		}
	}
}

// P23.6: nothing is kept: answers stay, and calls tell the same, whatever is written into what was handed in and into answers.
func TestNothingKept(t *testing.T) {
	c := newChance(12)
	for range 2000 {
		q := c.question(t).roomy()
		other := q.roomy()
		one, two := q.answers(), q.answers()
		spoil(q)
		if !reflect.DeepEqual(one, two) {
			t.Fatalf("%+v, not %+v", one, two)
		}
		clear(two.of)
		clear(two.merged)
		clear(two.got)
		clear(two.bytes)
		if three := other.answers(); !reflect.DeepEqual(one, three) {
			t.Fatalf("%+v, not %+v", one, three)
		}
	}
}

// spoil writes into all lists of a question.
func spoil(q question) {
	var data func(l []api.Data)
	data = func(l []api.Data) {
		for _, d := range l {
			for _, b := range d.Buffers {
				for i := range b {
					b[i] ^= 0xff
				}
			}
			data(d.Children)
			data(d.Dict)
		}
		clear(l)
	}
	data(q.data)
	for _, f := range q.s.Fields {
		clear(f.Type.Fields)
	}
	clear(q.s.Fields)
	for _, e := range q.exprs {
		clear(e.Args)
	}
	clear(q.exprs)
	clear(q.stats)
	clear(q.other)
	clear(q.bytes)
}

// R2: beside an error all else is zero. (The other tests hold that for the stats and answers that they ask.)
func TestZeroBesideErrors(t *testing.T) {
	s := schemaOf(t, "a int8")
	if b, e := Put(s, nil); b != nil || e != api.ErrUnlike {
		t.Errorf("Put: %v, %d", b, e)
	}
	if l, e := Get(s, []byte{1}); l != nil || e != api.ErrForm {
		t.Errorf("Get: %v, %d", l, e)
	}
	if l, e := Get(schemaOf(t, "a int8, b int8"), make([]byte, 10)); l != nil || e != api.ErrForm {
		t.Errorf("Get of one stat and a piece: %v, %d", l, e)
	}
}

// R1: whatever is handed in, each call ends: fields, arrays, values and expressions that stand in themselves, and long lists.
func TestEnds(t *testing.T) {
	ring := make([]api.Field, 1)
	ring[0] = api.Field{Name: "i", Type: api.Type{Kind: api.List, Fields: ring}}
	data := make([]api.Data, 1)
	data[0] = api.Data{Length: 1, Buffers: [][]byte{nil, {0, 0, 0, 0, 1, 0, 0, 0}}, Children: data}
	values := make([]api.Value, 1)
	values[0] = api.Value{List: values}
	args := make([]api.Expr, 2)
	args[0], args[1] = op(api.OpAnd, args...), lit(fieldOf(t, "x bool"), num(1))
	args[0].Args = args
	deep := fieldOf(t, "a list(i list(j list(k int8)))")
	if x, e := Of(ring[0], data[0]); e != api.ErrType {
		t.Errorf("a field in itself: %v, %d", x, e)
	}
	if x, e := Of(deep, data[0]); e == api.OK {
		t.Errorf("an array in itself: %v", x)
	}
	f := fieldOf(t, "a int8")
	s := api.Schema{Fields: []api.Field{f}}
	round := bounds(1, 0, values[0], values[0])
	wants := func(what string, e, want api.Errno) {
		if e != want {
			t.Errorf("%s: %d, not %d", what, e, want)
		}
	}
	for _, x := range []api.Stat{round, {Rows: 1, Least: values[0]}, {Rows: 1, Most: values[0]}, {Rows: 1, Most: api.Value{List: make([]api.Value, 1<<20)}}, bounds(1, 0, num(0), text(strings.Repeat("x", 1<<23)))} {
		_, e := Merge(f, x, x)
		wants("Merge", e, api.ErrValue)
		_, e = Put(s, []api.Stat{x})
		wants("Put", e, api.ErrValue)
		_, e = May(s, args[0], []api.Stat{x})
		wants("May", e, api.ErrValue)
	}
	_, e := May(s, args[0], []api.Stat{{Rows: 1}})
	wants("an expression in itself", e, api.ErrExpr)
	_, e = May(s, op(api.OpIsNull, lit(f, values[0])), []api.Stat{{Rows: 1}})
	wants("a literal in itself", e, api.ErrValue)
	_, e = May(api.Schema{Fields: ring}, args[0], []api.Stat{{Rows: 1}})
	wants("a schema in itself", e, api.ErrType)
	_, e = Put(s, make([]api.Stat, 1<<20))
	wants("many stats", e, api.ErrUnlike)
	_, e = Get(s, make([]byte, 1<<24))
	wants("many bytes", e, api.ErrForm)
	many := api.Schema{Fields: slices.Repeat([]api.Field{f}, 1000)}
	_, e = Get(many, make([]byte, 9000))
	wants("many fields", e, api.ErrType)
}
