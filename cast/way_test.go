package cast

import (
	"slices"
	"testing"

	"colonnade/api"
)

// kindTypes has a type of each kind but Dict and Runs, in the order of the kinds.
var kindTypes = []string{
	"null", "bool", "int8", "int16", "int32", "int64", "uint8", "uint16", "uint32", "uint64", "float64",
	"text", "bytes", "fixed(1)", "list(i int8)", "span(2, i int8)", "struct(a int8)", "choice(a int8)",
}

// kindWays has, a row a kind, to which kinds there is a way.
var kindWays = []string{
	"x xxxxxxxxxx x xx xx x .",
	". xxxxxxxxxx x .. .. . .", ". xxxxxxxxxx x .. .. . .", ". xxxxxxxxxx x .. .. . .", ". xxxxxxxxxx x .. .. . .", ". xxxxxxxxxx x .. .. . .",
	". xxxxxxxxxx x .. .. . .", ". xxxxxxxxxx x .. .. . .", ". xxxxxxxxxx x .. .. . .", ". xxxxxxxxxx x .. .. . .", ". xxxxxxxxxx x .. .. . .",
	". xxxxxxxxxx x xx .. . .",
	". .......... x xx .. . .", ". .......... x xx .. . .",
	". .......... . .. xx . .", ". .......... . .. xx . .",
	". .......... . .. .. x .",
	". .......... . .. .. . x",
}

// dressed has fields of a type: by itself, in a Dict, in Runs, each Nullable and not where it may be.
func dressed(t *testing.T, text string) []api.Field {
	t.Helper()
	l := []string{text + "?", "runs(v " + text + "?)?", "runs(v runs(w " + text + "?)?)?"}
	if text == "choice(a int8)" {
		l = nil
	}
	if text != "null" {
		l = append(l, text, "runs(v "+text+")", "dict(3, uint8, w "+text+")", "dict(3, int64, w "+text+")?", "runs(v dict(0, int8, w "+text+")?)?")
	}
	var fields []api.Field
	for _, s := range l {
		fields = append(fields, field(t, s))
	}
	return fields
}

// P16.1: the ways from each kind to each, also through dictionaries and runs.
func TestWaysOfKinds(t *testing.T) {
	for i, a := range kindTypes {
		row := slices.DeleteFunc([]byte(kindWays[i]), func(c byte) bool { return c == ' ' })
		for j, b := range kindTypes {
			for _, from := range dressed(t, a) {
				for _, to := range dressed(t, b) {
					if got := Can(from, to); got != (row[j] == 'x') {
						t.Errorf("Can(%v, %v): %v", from, to, got)
					}
				}
			}
		}
	}
}

// P16.1: of children the same is asked as of fields.
func TestWaysWithin(t *testing.T) {
	for _, x := range []struct {
		from, to string
		want     bool
	}{
		{"fixed(2)", "fixed(3)", true},
		{"list(i int8)", "list(other text?)?", true},
		{"list(i bytes)", "list(i int8)", false},
		{"list(i int8)", "span(64, i text)", true},
		{"span(1, i text)", "span(2, i bool)", true},
		{"list(i null?)", "list(i int8)", true},
		{"list(i null?)", "list(i choice(a int8))", false},
		{"list(i null?)", "list(i dict(0, int8, w choice(a int8))?)", false},
		{"list(i null?)", "list(i runs(w choice(a int8)))", false},
		{"list(i null?)", "list(i struct(a choice(a int8)))", true},
		{"runs(v null?)?", "struct(a choice(a int8))", true},
		{"list(i dict(0, int8, w text))", "span(3, i runs(v int8?)?)", true},
		{"list(i list(j list(k int8)))", "span(1, i span(2, j list(k float64)))", true},
		{"list(i list(j list(k bytes)))", "span(1, i span(2, j list(k float64)))", false},
		{"list(i int8?)", "list(i null?)", false},
		{"list(i list(j int8))", "list(i int8)", false},
		{"struct()", "struct()?", true},
		{"struct()", "struct(a int8)", false},
		{"struct(a int8)", "struct()", false},
		{"struct(a int8, b text)", "struct(a text, b int8?)", true},
		{"struct(a int8, b text)", "struct(b text, a int8)", false},
		{"struct(a int8, b text)", "struct(a int8)", false},
		{"struct(a int8, b text)", "struct(a int8, B text)", false},
		{"struct(a int8, b bytes)", "struct(a int8, b int8)", false},
		{"struct(a null?)", "struct(a int8)", true},
		{"struct(a int8)", "choice(a int8)", false},
		{"choice(a int8)", "struct(a int8)", false},
		{"choice(a int8, b text)", "choice(a text, b bool)", true},
		{"choice(a int8, b text)", "choice(a text)", false},
		{"choice(a int8, b text)", "choice(b text, a int8)", false},
		{"choice(a int8, b bytes)", "choice(a int8, b bool)", false},
		{"choice(a null?)", "choice(a text)", true},
		{"choice(a null?)", "choice(a choice(b text))", false},
		{"dict(0, int8, w choice(a int8))?", "runs(v choice(a text))", true},
		{"dict(0, int8, w struct(a list(i int8)))?", "struct(a span(1, i runs(v text)))", true},
	} {
		if got := Can(field(t, x.from), field(t, x.to)); got != x.want {
			t.Errorf("Can(%s, %s): %v", x.from, x.to, got)
		}
	}
}

// badFields may not be.
func badFields() []api.Field {
	ring := make([]api.Field, 1)
	ring[0] = api.Field{Name: "f", Type: api.Type{Kind: api.List, Fields: ring}}
	text := api.Field{Name: "w", Type: api.Type{Kind: api.Text}}
	return []api.Field{
		{}, ring[0],
		{Name: "f", Type: api.Type{Kind: api.Null}},
		{Name: "f", Type: api.Type{Kind: -1}},
		{Name: "f", Type: api.Type{Kind: 21}},
		{Name: "", Type: api.Type{Kind: api.Int8}},
		{Name: "f", Type: api.Type{Kind: api.Fixed}},
		{Name: "f", Type: api.Type{Kind: api.List}},
		{Name: "f", Type: api.Type{Kind: api.Dict, Fields: []api.Field{text}}},
		{Name: "f", Type: api.Type{Kind: api.Runs}},
		{Name: "f", Nullable: true, Type: api.Type{Kind: api.Runs, Fields: []api.Field{text}}},
		{Name: "f", Nullable: true, Type: api.Type{Kind: api.Choice, Fields: []api.Field{text}}},
		{Name: "f", Type: api.Type{Kind: api.Struct, Fields: []api.Field{text, text}}},
	}
}

// P16.1: from fields that may not be, and to them, there is no way: not to themselves either.
func TestBadFields(t *testing.T) {
	good := field(t, "text")
	d := data(t, good, `"x"`)
	for i, f := range badFields() {
		for _, pair := range [][2]api.Field{{f, good}, {good, f}, {f, f}, {f, field(t, "list(i int8)")}} {
			from, to := pair[0], pair[1]
			if Can(from, to) {
				t.Errorf("line %d: a way", i)
			}
			v, e := Value(from, text("x"), to)
			holdsValue(t, "Value", v, e, api.Value{}, api.ErrType)
			for _, loose := range []bool{false, true} {
				holdsCast(t, "Cast", castOf(from, d, to, loose), answer{e: api.ErrType})
				holdsCast(t, "Cast of no array", castOf(from, api.Data{}, to, loose), answer{e: api.ErrType})
			}
		}
	}
}

// P16.4: there is a way from each field to itself.
func TestWayToItself(t *testing.T) {
	c := newChance(1)
	for range 3000 {
		if f := c.of(c.shape(4)); !Can(f, f) {
			t.Fatalf("no way from %v to itself", f)
		}
	}
}
