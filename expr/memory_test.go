package expr

import (
	"reflect"
	"runtime"
	"slices"
	"testing"
	"unsafe"

	"colonnade/api"
)

// room is where a list lies, with the room behind it.
type room struct{ from, to uintptr }

func roomOf[T any](l []T) room {
	at := uintptr(unsafe.Pointer(unsafe.SliceData(l)))
	return room{at, at + uintptr(cap(l))*unsafe.Sizeof(*new(T))}
}

// ofFields tells the rooms of a list of fields, and of all lists within.
func ofFields(fields []api.Field) []room {
	l := []room{roomOf(fields)}
	for _, f := range fields {
		l = append(l, ofFields(f.Type.Fields)...)
	}
	return l
}

// ofValues tells the rooms of a list of values, and of all lists within.
func ofValues(values []api.Value) []room {
	l := []room{roomOf(values)}
	for _, v := range values {
		l = append(l, ofValues(v.List)...)
	}
	return l
}

// ofExprs tells the rooms of a list of expressions, and of all lists within.
func ofExprs(exprs []api.Expr) []room {
	l := []room{roomOf(exprs)}
	for _, e := range exprs {
		l = slices.Concat(l, ofFields(e.Field.Type.Fields), ofValues(e.Value.List), ofExprs(e.Args))
	}
	return l
}

// ofData tells the rooms of a list of arrays, and of all lists within.
func ofData(list []api.Data) []room {
	l := []room{roomOf(list)}
	for _, d := range list {
		l = append(l, roomOf(d.Buffers))
		for _, b := range d.Buffers {
			l = append(l, roomOf(b))
		}
		l = slices.Concat(l, ofData(d.Children), ofData(d.Dict))
	}
	return l
}

// apart tells whether none of some rooms shares a byte with another one, or with those of other lists.
func apart(l, others []room) bool {
	for i, a := range l {
		for _, b := range slices.Concat(l[:i], others) {
			if a.from < a.to && b.from < b.to && a.from < b.to && b.from < a.to {
				return false
			}
		}
	}
	return true
}

// roomy is the same list, with room behind it that is not empty.
func roomy[T any](l []T, behind T) []T { return append(slices.Clone(l), behind, behind)[:len(l)] }

// roomyFields are the same fields in memory of their own, with room behind all lists.
func roomyFields(fields []api.Field) []api.Field {
	l := roomy(fields, api.Field{Name: "behind"})
	for i := range l {
		l[i].Type.Fields = roomyFields(l[i].Type.Fields)
	}
	return l
}

// roomyValues are the same values likewise.
func roomyValues(values []api.Value) []api.Value {
	l := roomy(values, api.Value{Text: "behind"})
	for i := range l {
		l[i].List = roomyValues(l[i].List)
	}
	return l
}

// roomyExprs are the same expressions likewise.
func roomyExprs(exprs []api.Expr) []api.Expr {
	l := roomy(exprs, api.Expr{Name: "behind"})
	for i := range l {
		l[i].Field.Type.Fields, l[i].Value.List, l[i].Args = roomyFields(l[i].Field.Type.Fields), roomyValues(l[i].Value.List), roomyExprs(l[i].Args)
	}
	return l
}

// roomyData are the same arrays likewise.
func roomyData(list []api.Data) []api.Data {
	l := roomy(list, api.Data{Length: 77})
	for i, d := range l {
		l[i].Buffers = roomy(d.Buffers, []byte("behind"))
		for k, b := range d.Buffers {
			l[i].Buffers[k] = roomy(b, 'b')
		}
		l[i].Children, l[i].Dict = roomyData(d.Children), roomyData(d.Dict)
	}
	return l
}

// wholeFields are fields in memory of their own, the room behind all lists as if it were theirs.
func wholeFields(fields []api.Field) []api.Field {
	l := slices.Clone(fields[:cap(fields)])
	for i := range l {
		l[i].Type.Fields = wholeFields(l[i].Type.Fields)
	}
	return l
}

// wholeValues are values likewise.
func wholeValues(values []api.Value) []api.Value {
	l := slices.Clone(values[:cap(values)])
	for i := range l {
		l[i].List = wholeValues(l[i].List)
	}
	return l
}

// wholeExprs are expressions likewise.
func wholeExprs(exprs []api.Expr) []api.Expr {
	l := slices.Clone(exprs[:cap(exprs)])
	for i := range l {
		l[i].Field.Type.Fields, l[i].Value.List, l[i].Args = wholeFields(l[i].Field.Type.Fields), wholeValues(l[i].Value.List), wholeExprs(l[i].Args)
	}
	return l
}

// wholeData are arrays likewise.
func wholeData(list []api.Data) []api.Data {
	l := slices.Clone(list[:cap(list)])
	for i, d := range l {
		l[i].Buffers = slices.Clone(d.Buffers[:cap(d.Buffers)])
		for k, b := range l[i].Buffers {
			l[i].Buffers[k] = slices.Clone(b[:cap(b)])
		}
		l[i].Children, l[i].Dict = wholeData(d.Children), wholeData(d.Dict)
	}
	return l
}

// question is what calls are asked of: a list of one expression, so that it has a room, too.
type question struct {
	s api.Schema
	b api.Batch
	l []api.Expr
}

// roomy is the same in memory of its own, with room behind all lists.
func (q question) roomy() question {
	return question{
		api.Schema{Fields: roomyFields(q.s.Fields), Notes: roomy(q.s.Notes, api.Note{Key: "behind"})},
		api.Batch{Rows: q.b.Rows, Columns: roomyData(q.b.Columns)}, roomyExprs(q.l),
	}
}

// whole is the same in memory of its own, the room behind all lists as if it were theirs.
func (q question) whole() question {
	return question{
		api.Schema{Fields: wholeFields(q.s.Fields), Notes: slices.Clone(q.s.Notes[:cap(q.s.Notes)])},
		api.Batch{Rows: q.b.Rows, Columns: wholeData(q.b.Columns)}, wholeExprs(q.l),
	}
}

// rooms tells the rooms of all lists.
func (q question) rooms() []room {
	return slices.Concat(ofFields(q.s.Fields), []room{roomOf(q.s.Notes)}, ofData(q.b.Columns), ofExprs(q.l))
}

// answers are what all calls answer; one field and one array stand in lists, which are held as long as the answers are.
type answers struct {
	fields []api.Field
	data   []api.Data
	exprs  []api.Expr
	names  []string
	faults []api.Fault
}

func (q question) answers() answers {
	e := q.l[0]
	f, x := Type(q.s, e)
	d, y := Eval(q.s, q.b, e)
	folded, z := Fold(q.s, e)
	text, _ := Print(e)
	again, _, _ := Parse(text)
	return answers{[]api.Field{f}, []api.Data{d}, []api.Expr{folded, again}, Columns(e), []api.Fault{x, y, z}}
}

func (a answers) rooms() []room {
	l := slices.Concat(ofFields(a.fields), ofData(a.data), ofExprs(a.exprs), []room{roomOf(a.names)})
	for _, x := range a.faults {
		l = append(l, roomOf(x.Path))
	}
	return l
}

// R3: what is handed in is not changed, the room behind it neither; no two lists of answers share memory, nor do they with what was handed in.
func TestMemory(t *testing.T) {
	c := newChance(41)
	for range 1500 {
		s, b, e := c.asked(t, 4, 4)
		q := question{s, b, []api.Expr{e}}.roomy()
		was := q.whole()
		one, two := q.answers(), q.answers()
		if !apart(slices.Concat(one.rooms(), two.rooms()), q.rooms()) {
			t.Fatalf("two lists share memory: %s", text(e))
		}
		// Till here none of them may be let go: another one might lie in its place.
		runtime.KeepAlive([]any{one, two, q})
		if !reflect.DeepEqual(q.whole(), was) {
			t.Fatalf("what was handed in is changed: %s", text(e))
		}
	}
}

// R3: nothing is kept: answers stay, and calls tell the same, whatever is written into what was handed in and into answers.
func TestNothingKept(t *testing.T) {
	c := newChance(42)
	for range 800 {
		s, b, e := c.typedOnes(t, 4, 4)
		q := question{s, b, []api.Expr{e}}.roomy()
		other := q.roomy()
		one, two := q.answers(), q.answers()
		spoilAll(q.s.Fields, q.b.Columns, q.l)
		if !reflect.DeepEqual(one, two) {
			t.Fatalf("%+v, not %+v", one, two)
		}
		spoilAll(two.fields, two.data, two.exprs)
		clear(two.names)
		if three := other.answers(); !reflect.DeepEqual(one, three) {
			t.Fatalf("%+v, not %+v", one, three)
		}
	}
}

// spoilAll writes into all lists of fields, arrays and expressions, from within.
func spoilAll(fields []api.Field, list []api.Data, exprs []api.Expr) {
	for _, d := range list {
		for _, b := range d.Buffers {
			for i := range b {
				b[i] ^= 0xff
			}
		}
		spoilAll(nil, slices.Concat(d.Children, d.Dict), nil)
	}
	for _, e := range exprs {
		spoilAll(e.Field.Type.Fields, nil, e.Args)
		spoilValues(e.Value.List)
	}
	for _, f := range fields {
		spoilAll(f.Type.Fields, nil, nil)
	}
	clear(fields)
	clear(list)
	clear(exprs)
}

// spoilValues writes into all lists of values.
func spoilValues(l []api.Value) {
	for _, v := range l {
		spoilValues(v.List)
	}
	clear(l)
}

// R3: also what Fold makes of lists and dictionaries, and what Type tells of them, lies by itself.
func TestMemoryOfLists(t *testing.T) {
	s := schemaOf(t, "a struct(p list(i text), q span(2, j int8)), b bool?")
	b := batchOf(t, s, `{p:["x"],q:[1,2]}`, "null")
	v := `lit(x struct(p list(i text), q span(2, j int8)) = {p:["y","z"],q:[3,4]})`
	for _, text := range []string{
		"a", v, "else(a, a)", "else(a, " + v + ")", "if(b, " + v + ", a)", "if(lit(c bool = true), " + v + ", " + v + ")", "eq(" + v + ", " + v + ")",
		"cast(a, y struct(p list(i text), q span(2, j int8)))", "cast(" + v + ", y struct(p list(i bytes), q list(j int64))?)", "isnull(cast(a, y struct(p span(1, i bytes), q list(j int64))?))",
	} {
		q := question{s, b, []api.Expr{parsed(t, text)}}.roomy()
		was := q.whole()
		one, two := q.answers(), q.answers()
		if one.faults[1].Err != api.OK || !apart(slices.Concat(one.rooms(), two.rooms()), q.rooms()) {
			t.Errorf("%s: two lists share memory, or %s", text, told(one.faults[1]))
		}
		runtime.KeepAlive([]any{one, two, q})
		if !reflect.DeepEqual(q.whole(), was) {
			t.Errorf("%s: what was handed in is changed", text)
		}
	}
}
