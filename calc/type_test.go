package calc

import (
	"fmt"
	"reflect"
	"testing"

	"colonnade/api"
	"colonnade/kind"
)

// sameField holds an answer of Type against what it must be.
func sameField(t testing.TB, what string, f api.Field, e api.Errno, want api.Field, err api.Errno) {
	t.Helper()
	if e != err {
		t.Fatalf("%s: %d, not %d", what, e, err)
	}
	if e != api.OK && !reflect.DeepEqual(f, api.Field{}) {
		t.Fatalf("%s: a field beside the error %d", what, e)
	}
	if e == api.OK && (f.Name != want.Name || !kind.AlikeFields(f, want)) {
		t.Fatalf("%s: %v, not %v", what, f, want)
	}
}

// operations are all of them.
func operations() []int {
	var l []int
	for op := api.OpAdd; op <= api.OpHolds; op++ {
		l = append(l, op)
	}
	return l
}

// samples are types of all kinds, and some that differ in one thing.
var samples = []string{"null?", "bool", "bool?", "int8", "int8?", "int16", "int32", "int64?", "uint8", "uint16", "uint32", "uint64", "float64", "float64?", "text", "text?", "bytes", "bytes?",
	"fixed(1)", "fixed(2)", "list(i int8)", "list(i int8)?", "list(i int8?)", "list(j int8)", "span(2, i int8)", "span(3, i int8)", "struct()", "struct(x int8, y text)", "struct(x int8)?", "struct(z int8)", "choice(x int8)", "choice(x int8, y text)",
	"dict(0, int8, w text)", "dict(1, uint64, v text)?", "dict(0, int8, w bool)?", "dict(0, int8, w float64)", "dict(0, int8, w list(i int8))?", "dict(3, int8, w choice(x int8))", "dict(4, int8, w choice(x int8))?", "dict(0, int8, w span(2, i int8))",
	"runs(v int8)", "runs(v int8?)?", "runs(v bool?)?", "runs(v runs(u text?)?)?", "runs(v dict(0, int8, w text)?)?", "runs(v dict(0, int8, w int8))", "runs(v null?)?", "runs(v choice(x int8))",
	"list(i dict(0, int8, w text))", "list(i dict(1, int8, w text))", "list(i dict(0, uint8, w text))", "list(i runs(v int8))"}

// P17.1: all operations, of one and of two arguments of all kinds, are as the table says.
func TestTypesOfAllKinds(t *testing.T) {
	told := map[api.Errno]int{}
	hold := func(op int, types ...string) {
		l := fields(t, types...)
		want, err := modelType(op, l)
		f, e := Type(op, l)
		sameField(t, fmt.Sprint(op, types), f, e, want, err)
		told[e]++
	}
	for _, op := range append(operations(), noOps...) {
		hold(op)
		for _, a := range samples {
			hold(op, a)
			for _, b := range samples {
				hold(op, a, b)
			}
		}
	}
	for _, e := range []api.Errno{api.OK, api.ErrType, api.ErrArg} {
		if told[e] < 1000 {
			t.Errorf("%d only %d times", e, told[e])
		}
	}
	for _, a := range []string{"bool", "bool?", "int8", "dict(0, int8, w bool)?", "runs(v bool)", "text", "null?"} {
		for _, b := range samples {
			for _, c := range samples {
				hold(api.OpIf, a, b, c)
			}
			hold(api.OpAdd, a, b, b)
			hold(api.OpIf, a, b, b, b)
		}
	}
}

// P17.1: what comes out has the first argument's name, not that of what it names.
func TestNames(t *testing.T) {
	for _, x := range []struct {
		op   int
		l    []string
		want string
	}{
		{api.OpAdd, []string{"first int8", "second int8"}, "first int8"},
		{api.OpElse, []string{"d dict(0, int8, w text)?", "t text?"}, "d text?"},
		{api.OpIf, []string{"c bool", "x text", "y text"}, "c text"},
		{api.OpIf, []string{"c bool?", "x runs(v int8)", "y int8"}, "c int8"},
		{api.OpIf, []string{"c dict(0, int8, w bool)?", "x struct(p int8)", "y struct(p int8)?"}, "c struct(p int8)?"},
		{api.OpLen, []string{"s span(3, i text)"}, "s int64"},
		{api.OpAdd, []string{"a int8", "a int8"}, "a int8"},
	} {
		var l []api.Field
		for _, s := range x.l {
			l = append(l, field(t, s))
		}
		f, e := Type(x.op, l)
		sameField(t, x.want, f, e, field(t, x.want), api.OK)
	}
}

// P17.1: who lets a null: a Dict by itself, a Runs by its child; and where what comes out lets one.
func TestWhatLetsNull(t *testing.T) {
	for _, x := range []struct {
		op   int
		l    []string
		want string
	}{
		{api.OpAdd, []string{"int8", "int8"}, "a int8"},
		{api.OpAdd, []string{"int8?", "int8"}, "a int8?"},
		{api.OpAdd, []string{"int8", "runs(v dict(0, int8, w int8)?)?"}, "a int8?"},
		{api.OpAdd, []string{"dict(0, int8, w int8)", "runs(v int8)"}, "a int8"},
		{api.OpEq, []string{"list(i int8?)", "list(i int8?)"}, "a bool"},
		{api.OpEq, []string{"null?", "null?"}, "a bool?"},
		{api.OpEq, []string{"dict(0, int8, w choice(x int8))?", "choice(x int8)"}, "a bool?"},
		{api.OpNot, []string{"runs(v bool?)?"}, "a bool?"},
		{api.OpIsNull, []string{"null?"}, "a bool"},
		{api.OpIsNull, []string{"text?"}, "a bool"},
		{api.OpElse, []string{"text?", "text?"}, "a text?"},
		{api.OpElse, []string{"text", "text?"}, "a text"},
		{api.OpElse, []string{"null?", "runs(v null?)?"}, "a null?"},
		{api.OpElse, []string{"dict(0, int8, w choice(x int8))?", "choice(x int8)"}, "a choice(x int8)"},
		{api.OpIf, []string{"bool?", "text", "text"}, "a text"},
		{api.OpIf, []string{"bool", "text?", "text"}, "a text?"},
		{api.OpIf, []string{"bool", "text", "text?"}, "a text?"},
		{api.OpIf, []string{"bool?", "choice(x int8)", "dict(7, int8, w choice(x int8))"}, "a choice(x int8)"},
		{api.OpLen, []string{"dict(0, int8, w fixed(3))?"}, "a int64?"},
	} {
		typeIs(t, x.op, x.l, x.want, api.OK)
	}
}

// P17.1: the field of what comes out may not be: a Choice that would be Nullable.
func TestWhatMayNotComeOut(t *testing.T) {
	nullable, choice := "dict(0, int8, w choice(x int8))?", "choice(x int8)"
	typeIs(t, api.OpElse, []string{nullable, nullable}, "", api.ErrType)
	typeIs(t, api.OpElse, []string{nullable, "runs(v dict(3, int8, w choice(x int8))?)?"}, "", api.ErrType)
	typeIs(t, api.OpIf, []string{"bool", nullable, choice}, "", api.ErrType)
	typeIs(t, api.OpIf, []string{"bool", choice, nullable}, "", api.ErrType)
}

// P17.1: types that differ in one thing are unlike: names, Nullable and numbers within them, but not Nullable and names of the fields.
func TestWhatIsAlike(t *testing.T) {
	typeIs(t, api.OpEq, []string{"list(i int8)", "list(i int8?)"}, "", api.ErrType)
	typeIs(t, api.OpEq, []string{"list(i int8)", "list(j int8)"}, "", api.ErrType)
	typeIs(t, api.OpEq, []string{"fixed(1)", "fixed(2)"}, "", api.ErrType)
	typeIs(t, api.OpEq, []string{"list(i dict(0, int8, w text))", "list(i dict(1, int8, w text))"}, "", api.ErrType)
	typeIs(t, api.OpEq, []string{"list(i dict(0, int8, w text))", "list(i text)"}, "", api.ErrType)
	typeIs(t, api.OpEq, []string{"dict(0, int8, w text)", "dict(0, int8, v text)?"}, "a bool?", api.OK)
	typeIs(t, api.OpGlue, []string{"text", "bytes"}, "", api.ErrType)
	typeIs(t, api.OpGlue, []string{"fixed(1)", "fixed(1)"}, "", api.ErrType)
	typeIs(t, api.OpBegins, []string{"fixed(1)", "fixed(1)"}, "", api.ErrType)
	typeIs(t, api.OpRem, []string{"float64", "float64"}, "", api.ErrType)
	typeIs(t, api.OpAdd, []string{"bool", "bool"}, "", api.ErrType)
	typeIs(t, api.OpNeg, []string{"bool"}, "", api.ErrType)
	typeIs(t, api.OpAnd, []string{"int8", "int8"}, "", api.ErrType)
	typeIs(t, api.OpLen, []string{"struct(x int8)"}, "", api.ErrType)
	typeIs(t, api.OpAdd, []string{"null?", "int8"}, "", api.ErrType)
	typeIs(t, api.OpElse, []string{"null?", "int8"}, "", api.ErrType)
}

// P17.1: a field that may not be is ErrType, wherever it stands; a wrong number of fields is told ahead of it.
func TestFieldsThatMayNotBe(t *testing.T) {
	good := field(t, "a bool")
	deep := api.Type{Kind: api.Int8}
	for range 64 {
		deep = api.Type{Kind: api.List, Fields: []api.Field{{Name: "i", Type: deep}}}
	}
	for _, bad := range []api.Field{
		{},
		{Name: "1", Type: good.Type},
		{Name: "a", Type: api.Type{Kind: api.Null}},
		{Name: "a", Type: api.Type{Kind: api.Bool, Width: 1}},
		{Name: "a", Type: api.Type{Kind: api.Dict, Index: api.Int8}},
		{Name: "a", Type: api.Type{Kind: api.Runs}},
		{Name: "a", Type: api.Type{Kind: api.Runs, Fields: []api.Field{{Name: "v", Nullable: true, Type: good.Type}}}},
		{Name: "a", Nullable: true, Type: api.Type{Kind: api.Choice, Fields: []api.Field{good}}},
		{Name: "a", Type: api.Type{Kind: 21}},
		{Name: "a", Type: api.Type{Kind: -1}},
		{Name: "a", Type: deep},
	} {
		for _, op := range operations() {
			n := modelRule(op).args
			for k := range n {
				l := []api.Field{good, good, good}[:n]
				l[k] = bad
				f, e := Type(op, l)
				sameField(t, "a field that may not be", f, e, api.Field{}, api.ErrType)
				f, e = Type(op, append(l, bad))
				sameField(t, "and one too many", f, e, api.Field{}, api.ErrArg)
				f, e = Type(op, l[:n-1])
				sameField(t, "and one too few", f, e, api.Field{}, api.ErrArg)
			}
		}
		for _, op := range noOps {
			f, e := Type(op, []api.Field{bad, bad})
			sameField(t, "no operation", f, e, api.Field{}, api.ErrArg)
		}
	}
}

// P17.1: any fields, hurt ones too.
func TestAnyTypes(t *testing.T) {
	c := newChance(1)
	told := map[api.Errno]int{}
	for range 40000 {
		op, l := c.call()
		want, err := modelType(op, l)
		f, e := Type(op, l)
		sameField(t, fmt.Sprint(op, l), f, e, want, err)
		told[e]++
	}
	for _, e := range []api.Errno{api.OK, api.ErrType, api.ErrArg} {
		if told[e] < 1000 {
			t.Errorf("%d only %d times", e, told[e])
		}
	}
}

// P17.1: the deepest type may be.
func TestDeepestType(t *testing.T) {
	deep := "int8"
	for range 63 {
		deep = "list(i " + deep + ")"
	}
	typeIs(t, api.OpElse, []string{deep + "?", deep}, "a "+deep, api.OK)
	typeIs(t, api.OpEq, []string{deep, deep}, "a bool", api.OK)
}
