package kind

import (
	"reflect"
	"slices"
	"strconv"
	"strings"
	"testing"

	"colonnade/api"
)

// sameFault tells whether two faults are the same; a list without elements may be nil or not.
func sameFault(a, b api.Fault) bool {
	return a.Err == b.Err && a.At == b.At && slices.Equal(a.Path, b.Path)
}

// checked holds Check against a fault.
func checked(t *testing.T, name string, s api.Schema, want api.Fault) {
	t.Helper()
	if got := Check(s); !sameFault(got, want) {
		t.Errorf("%s: Check = %v, want %v", name, got, want)
	}
}

// fault is one of a field.
func fault(e api.Errno, path ...int) api.Fault { return api.Fault{Err: e, Path: path} }

// P3.1: what a schema may be, at each limit.
func TestCheckLets(t *testing.T) {
	ids := make([]api.Field, 32)
	for i := range ids {
		ids[i] = dict("d"+strconv.Itoa(i), i, 3+i%8, plain("w", api.Text))
	}
	for name, s := range map[string]api.Schema{
		"nothing":           {},
		"empty lists":       {Fields: []api.Field{}, Notes: []api.Note{}},
		"32 dictionaries":   {Fields: ids},
		"16 notes":          {Notes: slices.Repeat([]api.Note{{Key: strings.Repeat("k", 256), Text: strings.Repeat("\x00", 256)}}, 16)},
		"64 levels":         of(chain(64)),
		"256 fields":        {Fields: crowd(256)},
		"a name of 48":      of(plain(strings.Repeat("_", 48), api.Bool)),
		"all letters":       of(plain("azAZ_09", api.Bool), plain("_0", api.Bool)),
		"names by lists":    of(with("a", api.Struct, plain("a", api.Int8)), with("b", api.Struct, plain("a", api.Int8))),
		"a null":            of(maybe(plain("n", api.Null))),
		"struct of none":    of(plain("s", api.Struct)),
		"struct of 32":      of(with("s", api.Struct, ids...)),
		"choice of 32":      of(with("c", api.Choice, ids...)),
		"fixed":             of(wide("f", api.Fixed, 1), wide("g", api.Fixed, 16)),
		"span":              of(wide("f", api.Span, 1, chain(1)), wide("g", api.Span, 64, chain(1))),
		"runs":              of(with("r", api.Runs, chain(1)), maybe(with("q", api.Runs, maybe(chain(1))))),
		"runs of runs":      of(with("r", api.Runs, with("r", api.Runs, chain(1)))),
		"runs of dict":      of(with("r", api.Runs, dict("d", 0, api.Int8, chain(1)))),
		"nulls in a dict":   of(dict("d", 0, api.Int8, with("w", api.List, maybe(chain(1))))),
		"dict, nullable":    of(maybe(dict("d", 31, api.Uint64, chain(1)))),
		"runs behind dict":  of(dict("d", 0, api.Int8, chain(1)), with("r", api.Runs, chain(1))),
		"runs of a choice":  of(with("r", api.Runs, with("c", api.Choice, chain(1)))),
		"types in a choice": of(with("c", api.Choice, maybe(plain("n", api.Null)), plain("b", api.Bytes), plain("f", api.Float64))),
	} {
		checked(t, name, s, api.Fault{})
		if got := Check(s); got.Path != nil || !reflect.DeepEqual(got, modelCheck(s)) {
			t.Errorf("%s: no zero Fault: %v", name, got)
		}
	}
}

// P3.1: faults of the schema itself, in their order.
func TestCheckLists(t *testing.T) {
	bad := plain("", 99)
	long := api.Note{Key: strings.Repeat("k", 257)}
	notes := func(n int) []api.Note { return make([]api.Note, n) }
	checked(t, "33 fields", of(slices.Repeat([]api.Field{bad}, 33)...), api.Fault{Err: api.ErrMany, At: 32})
	checked(t, "33 fields, 17 notes", api.Schema{Fields: crowd(32 * 33), Notes: notes(17)}, api.Fault{Err: api.ErrMany, At: 32})
	checked(t, "17 notes", api.Schema{Fields: []api.Field{bad}, Notes: append(notes(16), long)}, api.Fault{Err: api.ErrMany, At: 16})
	checked(t, "a long key", api.Schema{Fields: []api.Field{bad}, Notes: append(notes(3), long)}, api.Fault{Err: api.ErrNote, At: 3})
	checked(t, "a long text", api.Schema{Notes: []api.Note{{Text: long.Key}, long}}, api.Fault{Err: api.ErrNote})
	checked(t, "the second one", api.Schema{Notes: []api.Note{{Key: long.Key[1:], Text: long.Key[1:]}, {Text: long.Key}}}, api.Fault{Err: api.ErrNote, At: 1})
}

// P3.1: each fault of a field alone.
func TestCheckFields(t *testing.T) {
	good := plain("a", api.Int8)
	id := plain("i", api.Int8)
	id.Type.ID = 1
	index := plain("i", api.Int8)
	index.Type.Index = api.Int8
	of33 := slices.Clone(crowd(32 * 33))
	for _, x := range []struct {
		name string
		s    api.Schema
		want api.Fault
	}{
		{"65 levels", of(chain(65)), fault(api.ErrDeep, make([]int, 65)...)},
		{"65 levels behind", of(chain(64), with("b", api.Choice, plain("c", api.Bool), chain(64))), fault(api.ErrDeep, append([]int{1, 1}, make([]int, 63)...)...)},
		{"257 fields", api.Schema{Fields: crowd(257)}, fault(api.ErrMany, 8)},
		{"289 fields", api.Schema{Fields: crowd(289)}, fault(api.ErrMany, 8)},
		{"a name of 49", of(plain(strings.Repeat("a", 49), api.Bool)), fault(api.ErrName, 0)},
		{"a name of a quarter", of(plain("a\xfc", api.Bool)), fault(api.ErrName, 0)},
		{"two names", of(good, plain("b", api.Bool), good), fault(api.ErrTwice, 2)},
		{"two names within", of(with("a", api.Struct, plain("b", api.Bool), plain("a", api.Bool), plain("b", api.Text))), fault(api.ErrTwice, 0, 2)},
		{"kind 0", of(plain("a", api.KindNone)), fault(api.ErrKind, 0)},
		{"kind -1", of(plain("a", -1)), fault(api.ErrKind, 0)},
		{"kind 21", of(plain("a", 21)), fault(api.ErrKind, 0)},
		{"the least kind", of(plain("a", -1<<63)), fault(api.ErrKind, 0)},
		{"the greatest kind", of(plain("a", 1<<63-1)), fault(api.ErrKind, 0)},
		{"a wide int8", of(wide("a", api.Int8, 1)), fault(api.ErrKind, 0)},
		{"a wide list", of(wide("a", api.List, 1, good)), fault(api.ErrKind, 0)},
		{"fixed(0)", of(wide("a", api.Fixed, 0)), fault(api.ErrKind, 0)},
		{"fixed(-1)", of(wide("a", api.Fixed, -1)), fault(api.ErrKind, 0)},
		{"fixed(17)", of(wide("a", api.Fixed, 17)), fault(api.ErrKind, 0)},
		{"span(0)", of(wide("a", api.Span, 0, good)), fault(api.ErrKind, 0)},
		{"span(65)", of(wide("a", api.Span, 65, good)), fault(api.ErrKind, 0)},
		{"an int8 with an ID", of(id), fault(api.ErrKind, 0)},
		{"an int8 with an Index", of(index), fault(api.ErrKind, 0)},
		{"dict 32", of(dict("a", 32, api.Int8, good)), fault(api.ErrKind, 0)},
		{"dict -1", of(dict("a", -1, api.Int8, good)), fault(api.ErrKind, 0)},
		{"dict of bool indices", of(dict("a", 0, api.Bool, good)), fault(api.ErrKind, 0)},
		{"dict of float indices", of(dict("a", 0, api.Float64, good)), fault(api.ErrKind, 0)},
		{"dict of none", of(dict("a", 0, api.Int8)), fault(api.ErrKind, 0)},
		{"dict of two", of(dict("a", 0, api.Int8, good, good)), fault(api.ErrKind, 0)},
		{"list of none", of(with("a", api.List)), fault(api.ErrKind, 0)},
		{"runs of none", of(with("a", api.Runs)), fault(api.ErrKind, 0)},
		{"runs of two", of(with("a", api.Runs, good, good)), fault(api.ErrKind, 0)},
		{"span of two", of(wide("a", api.Span, 2, good, good)), fault(api.ErrKind, 0)},
		{"choice of none", of(with("a", api.Choice)), fault(api.ErrKind, 0)},
		{"choice of 33", of(with("a", api.Choice, of33...)), fault(api.ErrKind, 0)},
		{"struct of 33", of(with("a", api.Struct, of33...)), fault(api.ErrKind, 0)},
		{"text of one", of(with("a", api.Text, good)), fault(api.ErrKind, 0)},
		{"null of one", of(maybe(with("a", api.Null, good))), fault(api.ErrKind, 0)},
		{"a null that isn't", of(good, plain("n", api.Null)), fault(api.ErrNull, 1)},
		{"a choice that may be null", of(maybe(with("a", api.Choice, good))), fault(api.ErrNull, 0)},
		{"runs that may be null", of(maybe(with("a", api.Runs, good))), fault(api.ErrNull, 0)},
		{"runs that may not", of(with("a", api.Runs, maybe(good))), fault(api.ErrNull, 0)},
		{"a dictionary of nulls", of(dict("a", 0, api.Int8, maybe(good))), fault(api.ErrDict, 0)},
		{"a dictionary in one", of(dict("a", 0, api.Int8, dict("w", 1, api.Int8, good))), fault(api.ErrDict, 0, 0)},
		{"runs in a dictionary", of(dict("a", 0, api.Int8, with("s", api.Struct, good, with("r", api.Runs, good)))), fault(api.ErrDict, 0, 0, 1)},
		{"an ID twice", of(dict("a", 7, api.Int8, good), with("b", api.List, dict("c", 7, api.Int16, good))), fault(api.ErrDict, 1, 0)},
	} {
		checked(t, x.name, x.s, x.want)
	}
}

// P3.1: of several faults of one field the first of the list, of several fields the first one.
func TestCheckOrder(t *testing.T) {
	good := plain("a", api.Int8)
	level := func(levels int, last api.Field) api.Field {
		for range levels - 1 {
			last = with("a", api.List, last)
		}
		return last
	}
	beside := append(crowd(256-64), level(65, plain("9", 0)))
	beside[len(beside)-1].Name = "z"
	checked(t, "deep ahead of many", api.Schema{Fields: beside}, fault(api.ErrDeep, append([]int{6}, make([]int, 64)...)...))
	checked(t, "deep ahead of a name", of(level(65, plain("9", 0))), fault(api.ErrDeep, make([]int, 65)...))
	checked(t, "many ahead of a name", api.Schema{Fields: append(crowd(256), plain("", 0))}, fault(api.ErrMany, 8))
	checked(t, "a name ahead of two", of(plain("9", api.Bool), plain("9", api.Bool)), fault(api.ErrName, 0))
	checked(t, "a name ahead of a kind", of(plain("9", 0)), fault(api.ErrName, 0))
	checked(t, "two ahead of a kind", of(good, plain("a", 0)), fault(api.ErrTwice, 1))
	checked(t, "a kind ahead of null", of(maybe(with("c", api.Choice))), fault(api.ErrKind, 0))
	checked(t, "null ahead of dict", of(dict("d", 0, api.Int8, maybe(with("r", api.Runs, good)))), fault(api.ErrDict, 0))
	checked(t, "null ahead of dict, within", of(dict("d", 0, api.Int8, with("r", api.Runs, maybe(good)))), fault(api.ErrNull, 0, 0))
	checked(t, "a field ahead of its child", of(maybe(with("c", api.Choice, plain("", 0)))), fault(api.ErrNull, 0))
	checked(t, "a child ahead of the next", of(with("l", api.List, plain("", api.Int8)), plain("", 0)), fault(api.ErrName, 0, 0))
	checked(t, "a wrong kind ahead of its children", of(with("l", 21, plain("", 0))), fault(api.ErrKind, 0))
}

// P3.1, R1: what holds itself, or more than can be gone through, is looked at up to a bound.
func TestCheckEnds(t *testing.T) {
	round := []api.Field{with("a", api.List)}
	round[0].Type.Fields = round
	checked(t, "a list in itself", of(round...), fault(api.ErrDeep, make([]int, 65)...))
	many := make([]api.Field, 32)
	for i := range many {
		many[i] = plain("f"+strconv.Itoa(i), api.Struct)
	}
	for range 40 {
		l := make([]api.Field, 32)
		for i := range l {
			l[i] = with("f"+strconv.Itoa(i), api.Struct, many...)
		}
		many = l
	}
	want := modelCheck(of(many...))
	if want.Err != api.ErrMany {
		t.Fatalf("the model tells %v", want)
	}
	checked(t, "structs without end", of(many...), want)
	for name, s := range map[string]api.Schema{"round": of(round...), "many": of(many...)} {
		for range Walk(s) {
			t.Errorf("%s: Walk gives a field", name)
		}
		if Count(s) != 0 || Find(s, "a") != -1 || AlikeSchemas(s, s) || Depth(s.Fields[0].Type) != 0 || Parts(s.Fields[0].Type) != nil {
			t.Errorf("%s may be", name)
		}
		if _, e := At(s, []int{0}); e != api.ErrType {
			t.Errorf("%s: At: %d", name, e)
		}
		if text, e := Print(s); text != "" || e != api.ErrType {
			t.Errorf("%s: Print: %d", name, e)
		}
	}
}

// P3.1, P3.2 against the model, on schemas that may be and on those with a few things changed.
func TestCheckModel(t *testing.T) {
	c := newChance(1)
	told := map[api.Errno]int{}
	for range 20000 {
		s := c.schema()
		checked(t, "whole", s, api.Fault{})
		for range 1 + c.Intn(3) {
			s = c.hurt(s)
		}
		want := modelCheck(s)
		told[want.Err]++
		checked(t, "hurt", s, want)
		if len(s.Fields) == 0 {
			continue
		}
		f := s.Fields[c.Intn(len(s.Fields))]
		want = modelCheck(of(f))
		if want.Err != api.OK {
			want.Path = want.Path[1:]
		}
		if got := CheckField(f); !sameFault(got, want) {
			t.Fatalf("CheckField(%v) = %v, want %v", f, got, want)
		}
	}
	for _, e := range []api.Errno{api.OK, api.ErrName, api.ErrTwice, api.ErrKind, api.ErrNull, api.ErrDict} {
		if told[e] < 100 {
			t.Errorf("error %d came %d times", e, told[e])
		}
	}
}

// P3.2: the way begins behind the field.
func TestCheckField(t *testing.T) {
	good := plain("a", api.Int8)
	for _, x := range []struct {
		f    api.Field
		want api.Fault
	}{
		{good, api.Fault{}},
		{api.Field{}, fault(api.ErrName)},
		{plain("a", 0), fault(api.ErrKind)},
		{chain(64), api.Fault{}},
		{chain(65), fault(api.ErrDeep, make([]int, 64)...)},
		{with("s", api.Struct, good, plain("b", api.Null)), fault(api.ErrNull, 1)},
		{with("s", api.Struct, crowd(255)...), api.Fault{}},
		{with("s", api.Struct, crowd(256)...), fault(api.ErrMany, 7, 30)},
	} {
		if got := CheckField(x.f); !sameFault(got, x.want) {
			t.Errorf("CheckField(%v) = %v, want %v", x.f, got, x.want)
		}
	}
}
