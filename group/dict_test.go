package group

import (
	"math"
	"strings"
	"testing"

	"colonnade/api"
	"colonnade/array"
	"colonnade/build"
	"colonnade/kind"
)

// modelDict tells the field of an array as a dictionary, and whether it may be.
func modelDict(f api.Field, id, index int) (api.Field, bool) {
	child := f
	child.Name, child.Nullable = "values", false
	g := api.Field{Name: f.Name, Nullable: f.Nullable, Type: api.Type{Kind: api.Dict, ID: id, Index: index, Fields: []api.Field{child}}}
	return g, kind.CheckField(g).Err == api.OK
}

// refusedDict holds Dict to be refused with an error, and to tell nothing else.
func refusedDict(t testing.TB, what string, want api.Errno, f api.Field, d api.Data, id, index int) {
	t.Helper()
	g, x, e := Dict(f, d, id, index)
	if e != want || !sameFields([]api.Field{g}, []api.Field{{}}) || lies(x) != lies(api.Data{}) {
		t.Errorf("%s: %+v, %+v, %d, not %d", what, g, x, e, want)
	}
}

// P20.4: any array as a dictionary, or what is wrong.
func TestDict(t *testing.T) {
	c := newChance(51)
	told := map[api.Errno]int{}
	for range 8000 {
		c.ids = 0
		f := c.field("name", c.Intn(3), false)
		if kind.CheckField(f).Err != api.OK {
			t.Fatalf("%+v", f)
		}
		l := c.column(f, c.Intn(9))
		d := c.anyhow(t, f, l)
		id, index := c.Intn(api.MaxDicts), api.Int8+c.Intn(8)
		if c.in(9) {
			id, index = c.Intn(40)-4, c.Intn(23)-1
		}
		if c.in(9) {
			c.hurt(&f)
		}
		if c.in(9) {
			c.hurtArray(&d)
		}
		g, ok := modelDict(f, id, index)
		want := array.Check(f, d).Err
		if want == api.OK && !ok {
			want = api.ErrType
		}
		told[want]++
		if want != api.OK {
			refusedDict(t, "any", want, f, d, id, index)
			continue
		}
		got, x, e := Dict(f, d, id, index)
		if e != api.OK || !sameFields([]api.Field{got}, []api.Field{g}) || lies(x) != lies(formOf(t, g, valuesIn(t, f, d))) {
			t.Fatalf("%+v: %+v, %+v, %d", f, got, x, e)
		}
	}
	if told[api.OK] < 2000 || told[api.ErrType] < 1000 || len(told) < 5 {
		t.Errorf("too few of each: %v", told)
	}
}

// P20.4: fields that have no dictionary, IDs and kinds of indices that may not be.
func TestDictThatMayNotBe(t *testing.T) {
	for _, x := range []struct {
		field, values string
		id, index     int
	}{
		{"a text", `"x"`, -1, api.Int8}, {"a text", `"x"`, 32, api.Int8}, {"a text", `"x"`, math.MaxInt, api.Int8}, {"a text", `"x"`, math.MinInt, api.Int8},
		{"a text", `"x"`, 0, api.KindNone}, {"a text", `"x"`, 0, -1}, {"a text", `"x"`, 0, api.Bool}, {"a text", `"x"`, 0, api.Float64}, {"a text", `"x"`, 0, api.Text}, {"a text", `"x"`, 0, math.MaxInt},
		{"a null?", "null", 0, api.Int8}, {"a null?", "", 0, api.Int8},
		{"a dict(1, int8, w text)", `"x"`, 0, api.Int8}, {"a dict(0, int8, w text)?", "null", 0, api.Int8},
		{"a runs(v text)", `"x"`, 0, api.Int8}, {"a runs(v text?)?", "null", 0, api.Int8},
		{"a list(i dict(1, int8, w text))", "[]", 0, api.Int8}, {"a struct(x int8, y runs(v int8))", "{x:1,y:2}", 0, api.Int8}, {"a choice(x dict(1, int8, w text))", `x("x")`, 0, api.Int8},
	} {
		f := field(t, x.field)
		refusedDict(t, x.field, api.ErrType, f, formOf(t, f, values(t, f, x.values)), x.id, x.index)
	}
	// A type as deep as may be, one field less than may be, and one more of each.
	deep := field(t, "a "+strings.Repeat("list(i ", 62)+"int8"+strings.Repeat(")", 62))
	deeper := field(t, "a "+strings.Repeat("list(i ", 63)+"int8"+strings.Repeat(")", 63))
	wide := field(t, "a struct("+many(31, "s%d struct(a int8, b int8, c int8, d int8, e int8, f int8, g int8)")+", t struct(a int8, b int8, c int8, d int8, e int8))")
	wider := field(t, "a struct("+many(31, "s%d struct(a int8, b int8, c int8, d int8, e int8, f int8, g int8)")+", t struct(a int8, b int8, c int8, d int8, e int8, f int8))")
	for _, f := range []api.Field{deep, wide} {
		d, _ := build.Empty(f)
		if g, x, e := Dict(f, d, 31, api.Uint64); e != api.OK || g.Type.ID != 31 || x.Length != 0 || len(x.Dict) != 1 {
			t.Errorf("%+v, %d", g, e)
		}
	}
	for _, f := range []api.Field{deeper, wider} {
		d, e := build.Empty(f)
		if e != api.OK {
			t.Fatal(e)
		}
		refusedDict(t, "one more", api.ErrType, f, d, 31, api.Uint64)
	}
}

// P20.4: a field that may not be ahead of the array, the array ahead of the dictionary.
func TestDictOrderOfFaults(t *testing.T) {
	f := field(t, "a text?")
	wrong := formOf(t, f, values(t, f, `"x" null`))
	wrong.Nulls = 0
	refusedDict(t, "an array that is none", api.ErrLength, f, wrong, 32, api.Bool)
	refusedDict(t, "an array that is none", api.ErrLength, f, wrong, 0, api.Int8)
	refusedDict(t, "a field that is none", api.ErrType, api.Field{Name: "9", Type: f.Type}, wrong, 0, api.Int8)
	refusedDict(t, "no array of a Null", api.ErrShape, field(t, "n null?"), wrong, 0, api.Int8)
}

// P20.4: as many values as the indices have numbers, and one more; nulls and values that come again don't count.
func TestDictIndices(t *testing.T) {
	f := field(t, "n int16?")
	for index, most := range map[int]int{api.Int8: 128, api.Uint8: 256, api.Int16: api.MaxRows - 1, api.Uint64: api.MaxRows - 1} {
		l := []api.Value{null}
		for i := range most {
			l = append(l, api.Value{Num: int64(most - i)})
		}
		if len(l) < api.MaxRows {
			l = append(l, null, l[1], l[most])
		}
		g, d, e := Dict(f, formOf(t, f, l), 5, index)
		if e != api.OK || d.Dict[0].Length != most || d.Length != len(l) || lies(d) != lies(formOf(t, g, l)) {
			t.Errorf("index %d, %d values: %d, %d", index, most, d.Length, e)
		}
		if most > 256 {
			continue
		}
		refusedDict(t, "one value more", api.ErrIndices, f, formOf(t, f, append(l, api.Value{Num: -1})), 5, index)
	}
}

// P20.4: rows that name one text again and again have it once in the dictionary.
func TestDictOfNamed(t *testing.T) {
	f := field(t, "c choice(x text)")
	g, d, e := Dict(f, named(t, f, strings.Repeat("x", 900), api.MaxRows), 0, api.Int8)
	if e != api.OK || d.Dict[0].Length != 1 || d.Length != api.MaxRows || g.Nullable {
		t.Errorf("%+v, %d rows, %d", g, d.Length, e)
	}
}
