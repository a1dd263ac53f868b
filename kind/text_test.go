package kind

import (
	"reflect"
	"strings"
	"testing"

	"colonnade/api"
)

// sameSchema tells whether two schemas are the same in all; a list without elements may be nil or not.
func sameSchema(a, b api.Schema) bool {
	trim := func(s api.Schema) api.Schema {
		s.Fields = copied(s.Fields)
		if len(s.Notes) == 0 {
			s.Notes = nil
		}
		return s
	}
	return reflect.DeepEqual(trim(a), trim(b))
}

// P3.9: the text of each kind, and of what is beside it.
func TestPrint(t *testing.T) {
	a := plain("a", api.Int8)
	for want, s := range map[string]api.Schema{
		"": of(),
		"n null?, b bool, i int8, j int16, k int32, l int64":                 of(maybe(plain("n", 1)), plain("b", 2), plain("i", 3), plain("j", 4), plain("k", 5), plain("l", 6)),
		"o uint8, p uint16, q uint32, r uint64, f float64?, t text, u bytes": of(plain("o", 7), plain("p", 8), plain("q", 9), plain("r", 10), maybe(plain("f", 11)), plain("t", 12), plain("u", 13)),
		"x fixed(16)?":                     of(maybe(wide("x", api.Fixed, 16))),
		"x list(a int8), y list(a int8?)?": of(with("x", api.List, a), maybe(with("y", api.List, maybe(a)))),
		"x span(64, a int8)?":              of(maybe(wide("x", api.Span, 64, a))),
		"x struct(), y struct(a int8), z struct(a int8, b struct()?)?":            of(with("x", api.Struct), with("y", api.Struct, a), maybe(with("z", api.Struct, a, maybe(with("b", api.Struct))))),
		"x choice(a int8), y choice(a int8, n null?)":                             of(with("x", api.Choice, a), with("y", api.Choice, a, maybe(plain("n", api.Null)))),
		"x dict(0, int8, a int8), y dict(31, uint64, w struct(a int8?))?":         of(dict("x", 0, api.Int8, a), maybe(dict("y", 31, api.Uint64, with("w", api.Struct, maybe(a))))),
		"x runs(a int8), y runs(a int8?)?":                                        of(with("x", api.Runs, a), maybe(with("y", api.Runs, maybe(a)))),
		`| "" ""`:                                                                 {Notes: []api.Note{{}}},
		`a int8 | "k" "t", "k" "|,?()"`:                                           {Fields: []api.Field{a}, Notes: []api.Note{{Key: "k", Text: "t"}, {Key: "k", Text: "|,?()"}}},
		`| "\x00\x1f !#[]~\x7f\x80\xff" "\"\\\xc3\xa4\x0a"`:                       {Notes: []api.Note{{Key: "\x00\x1f !#[]~\x7f\x80\xff", Text: "\"\\ä\n"}}},
		"list list(list list(list text)), int8 int16, null null?, fixed fixed(9)": of(with("list", api.List, with("list", api.List, plain("list", api.Text))), plain("int8", api.Int16), maybe(plain("null", api.Null)), wide("fixed", api.Fixed, 9)),
	} {
		if got, e := Print(s); got != want || e != api.OK {
			t.Errorf("Print = %q, %d, want %q", got, e, want)
		}
		if got, e, at := Parse(want); e != api.OK || at != 0 || !sameSchema(got, s) {
			t.Errorf("Parse(%q) = %v, %d, %d", want, got, e, at)
		}
		if len(s.Fields) != 1 || s.Notes != nil {
			continue
		}
		if got, e := PrintField(s.Fields[0]); got != want || e != api.OK {
			t.Errorf("PrintField = %q, %d, want %q", got, e, want)
		}
	}
}

// P3.9: what may not be has no text.
func TestPrintBad(t *testing.T) {
	good := plain("a", api.Int8)
	for _, s := range []api.Schema{of(good, good), of(plain("", api.Int8)), of(plain("a", 0)), of(plain("a", api.Null)), of(chain(65)), of(crowd(257)...), {Notes: make([]api.Note, 17)}} {
		if got, e := Print(s); got != "" || e != api.ErrType {
			t.Errorf("Print(%v) = %q, %d", s, got, e)
		}
	}
	for _, f := range []api.Field{{}, plain("9", api.Int8), plain("a", api.Null), with("l", api.List), chain(65), with("s", api.Struct, good, good)} {
		if got, e := PrintField(f); got != "" || e != api.ErrType {
			t.Errorf("PrintField(%v) = %q, %d", f, got, e)
		}
	}
}

// P3.9: the longest texts are no longer than may be read.
func TestPrintLongest(t *testing.T) {
	s := of()
	long := api.Note{Key: strings.Repeat("\xff", 256), Text: strings.Repeat("\x00", 256)}
	for range 16 {
		s.Notes = append(s.Notes, long)
	}
	s.Fields = crowd(256)
	for i := range s.Fields {
		s.Fields[i].Name += strings.Repeat("_", 45)
		for k := range s.Fields[i].Type.Fields {
			f := &s.Fields[i].Type.Fields[k]
			f.Name += strings.Repeat("_", 45)
			f.Type.Kind, f.Nullable = api.Float64, true
		}
	}
	text, e := Print(s)
	if e != api.OK || len(text) > api.MaxText {
		t.Fatalf("Print: %d bytes, %d", len(text), e)
	}
	if got, e, _ := Parse(text); e != api.OK || !sameSchema(got, s) {
		t.Errorf("Parse of it: %d", e)
	}
}

// P3.10: places of faults of the form.
func TestParseForm(t *testing.T) {
	for text, at := range map[string]int{
		"a": 1, "a ": 2, " \t\na": 4, "a int": 2, "a Int8": 2, "a int8 ,": 8, "a int8,, b bool": 7, ", a int8": 0, "a int8 a": 7, "a int8 9": 7,
		"a int8??": 7, "? a": 0, "a ? int8": 2, "(": 0, ")": 0, "a int8)": 6, "a int8(": 6, "a int8()": 6, "a text\"": 6, "\"": 0, "a \"": 2, "a \"\\y": 2,
		"a int8;": 6, "a;": 1, ";": 0, "\r": 0, "a\rint8": 1, "a \x00": 2, "\x00": 0, "ä int8": 0, "a int8\x80": 6, "a int8 b int8": 7, "aint8": 5,
		"a fixed": 7, "a fixed 3": 8, "a fixed(": 8, "a fixed()": 8, "a fixed( 017)": 9, "a fixed(00)": 8, "a fixed(12345)": 8, "a fixed(1x)": 8, "a fixed(x)": 8,
		"a fixed(-1)": 8, "a fixed(1 2)": 10, "a fixed(1,": 9, "a fixed(1": 9, "a fixed(a int8)": 8, "a fixed(1)(": 10, "a fixed(\"1\")": 8,
		"a list": 6, "a list(": 7, "a list(b)": 8, "a list(b int8": 13, "a list(b int8,": 13, "a list(b int8, c int8)": 13, "a list(b int8))": 14, "a list?": 6, "a list(3)": 8,
		"a span(b int8)": 7, "a span(3 b int8)": 9, "a span(3)": 8, "a span(3,)": 9, "a span(3, b int8, c int8)": 16, "a span(03, b int8)": 7,
		"a struct": 8, "a struct(": 9, "a struct(,)": 9, "a struct(b int8,)": 16, "a struct(b int8 c int8)": 16, "a struct(?)": 9,
		"a choice()": 9, "a choice(b int8": 15, "a choice(b int8,)": 16,
		"a dict()": 7, "a dict(b": 7, "a dict(1)": 8, "a dict(1,)": 9, "a dict(1, b)": 10, "a dict(1, bool, b int8)": 10, "a dict(1, float64, b int8)": 10,
		"a dict(1, int8)": 14, "a dict(1, int8,)": 15, "a dict(1, int8, b)": 17, "a dict(1, int8, b text, c text)": 22, "a dict(1, 3, b text)": 10, "a dict(1, null, b text)": 10,
		"a runs()": 7, "a runs(b int8, c int8)": 13, "a runs(b int8?": 14,
		"|": 1, "| ": 2, "a int8 |": 8, "a int8, | \"\" \"\"": 8, "| k": 2, "| \"k\"": 5, "| \"k\" ": 6, "| \"k\" t": 6, "| \"k\" \"t\",": 10, "| \"k\" \"t\" \"u\"": 10, "| \"k\", \"t\"": 5,
		"| \"k\" \"t\" | \"k\" \"t\"": 10, "| \"k\" \"t\", a int8": 11, "|| \"k\" \"t\"": 1, "\"k\" \"t\"": 0, "| \"k\" \"t\";": 9,
		"| \"": 3, "| \"ab": 5, "| \"a\tb": 4, "| \"a\nb": 4, "| \"a\x7f\"": 4, "| \"a\x1f\"": 4, "| \"ä\"": 3, "| \"\x00": 3,
		"| \"a\\": 5, "| \"a\\x": 6, "| \"a\\x4": 7, "| \"a\\x41": 8, "| \"a\\y": 4, "| \"a\\xg": 4, "| \"a\\x4g": 4, "| \"a\\x4\"": 4, "| \"a\\x\"": 4, "| \"a\\x4A\"": 4, "| \"a\\X41\"": 4, "| \"a\\xA4\"": 4,
		"| \"a\\n\" \"\"": 4, "| \"\" \"b\\": 8, "| \"\" \"b\\'": 7,
		// The form goes ahead of what may be.
		"9 int8, 9 int8, b": 17, "a null, b fixed(0) c": 19,
	} {
		got, e, place := Parse(text)
		if e != api.ErrForm || place != at || !reflect.DeepEqual(got, api.Schema{}) {
			t.Errorf("Parse(%q) = %v, %d, %d, want %d", text, got, e, place, at)
		}
		if _, e, place = modelParse(text, false); e != api.ErrForm || place != at {
			t.Errorf("the model of %q tells %d, %d, want %d", text, e, place, at)
		}
	}
}

// P3.10: what is of the form, and may not be.
func TestParseFaults(t *testing.T) {
	name := strings.Repeat("n", 49)
	many := strings.Repeat("a int8,", 32) + "a int8"
	note := `| "" "` + strings.Repeat("x", 257) + `"`
	deep := strings.Repeat("a list(", 64) + "b int8" + strings.Repeat(")", 64)
	wider := "a struct(" + many + ")"
	crowded := "x struct(" + strings.TrimSuffix(strings.Repeat("y struct(),", 32), ",") + ")"
	for _, x := range []struct {
		text string
		e    api.Errno
		at   int
	}{
		{" \n9 int8", api.ErrName, 2}, {"a int8, 9x int8", api.ErrName, 8}, {"\t" + name + " int8", api.ErrName, 1}, {"a list( 9 int8)", api.ErrName, 8},
		{"a int8, \n a bool", api.ErrTwice, 10}, {"a struct(a int8, b int8,a text)", api.ErrTwice, 24}, {crowded, api.ErrTwice, 20},
		{"a fixed(0)", api.ErrKind, 0}, {"b int8, a fixed(9999)", api.ErrKind, 8}, {"b list(a span(65, c int8))", api.ErrKind, 7}, {"a dict(32, int8, w text)", api.ErrKind, 0}, {wider, api.ErrKind, 0},
		{"a null", api.ErrNull, 0}, {"b int8, a choice(a int8)?", api.ErrNull, 8}, {"a runs(b int8)?", api.ErrNull, 0}, {"a list(b runs(c int8?))", api.ErrNull, 7},
		{"a dict(0, int8, w text?)", api.ErrDict, 0}, {"a dict(3, int8, w text), b list(c dict(3, int8, w text))", api.ErrDict, 32}, {"a dict(3, int8, w runs(c int8))", api.ErrDict, 16},
		{deep, api.ErrDeep, 448}, {many, api.ErrMany, 0}, {" " + many + note, api.ErrMany, 0},
		{"a int8" + note, api.ErrNote, 0}, {"9 int8" + note, api.ErrNote, 0}, {"9 int8 | " + strings.Repeat(`"" "",`, 16) + `"" ""`, api.ErrMany, 0},
	} {
		got, e, at := Parse(x.text)
		if e != x.e || at != x.at || !reflect.DeepEqual(got, api.Schema{}) {
			t.Errorf("Parse(%.60q) = %v, %d, %d, want %d, %d", x.text, got, e, at, x.e, x.at)
		}
		if _, e, at := modelParse(x.text, false); e != x.e || at != x.at {
			t.Errorf("the model of %.60q tells %d, %d", x.text, e, at)
		}
	}
}

// P3.10: 256 fields and one more; the one more has its place.
func TestParseMany(t *testing.T) {
	for _, n := range []int{256, 257} {
		text := ""
		for i, f := range crowd(n) {
			if i > 0 {
				text += ", "
			}
			text += strings.Join(looseField(f), " ")
		}
		_, e, at := Parse(text)
		if n == 256 && (e != api.OK || at != 0) || n == 257 && (e != api.ErrMany || at != strings.Index(text, "c8")) {
			t.Errorf("Parse of %d fields: %d, %d", n, e, at)
		}
	}
}

// P3.10: what is too long, and the longest texts, however deep.
func TestParseLongest(t *testing.T) {
	for _, x := range []struct {
		text string
		e    api.Errno
		at   int
	}{
		{strings.Repeat(" ", 65536), api.OK, 0},
		{strings.Repeat(" ", 65537), api.ErrBytes, 65536},
		{strings.Repeat(";", 65537), api.ErrBytes, 65536},
		{strings.Repeat("a", 65536), api.ErrForm, 65536},
		{strings.Repeat("a", 65536-5) + " int8", api.ErrName, 0},
		{strings.Repeat("(", 65536), api.ErrForm, 0},
		{strings.Repeat("a list(", 65536/7), api.ErrForm, 65536 / 7 * 7},
		{strings.Repeat("a list(", 8000) + "a int8" + strings.Repeat(")", 8000), api.ErrDeep, 64 * 7},
		{strings.Repeat("a int8,", 9000) + "a int8", api.ErrMany, 0},
		{`| "" "` + strings.Repeat(`\x00`, 16000) + `"`, api.ErrNote, 0},
		{`| "" "` + strings.Repeat(`x`, 65530), api.ErrForm, 65536},
	} {
		if _, e, at := Parse(x.text); e != x.e || at != x.at {
			t.Errorf("Parse(%.30q) = %d, %d, want %d, %d", x.text, e, at, x.e, x.at)
		}
	}
	if f, e, at := ParseField(strings.Repeat(" ", 65531) + "a int8"); e != api.ErrBytes || at != 65536 || !reflect.DeepEqual(f, api.Field{}) {
		t.Errorf("ParseField = %v, %d, %d", f, e, at)
	}
	if f, e, at := ParseField(strings.Repeat(" ", 65530) + "a int8"); e != api.OK || at != 0 || f.Name != "a" {
		t.Errorf("ParseField = %v, %d, %d", f, e, at)
	}
}

// P3.10: a field alone.
func TestParseField(t *testing.T) {
	for _, x := range []struct {
		text string
		e    api.Errno
		at   int
	}{
		{"a int8", api.OK, 0}, {" a int8 ? \n", api.OK, 0}, {"", api.ErrForm, 0}, {"  ", api.ErrForm, 2}, {"a int8, b int8", api.ErrForm, 6}, {"a int8 | \"k\" \"t\"", api.ErrForm, 7},
		{"| \"k\" \"t\"", api.ErrForm, 0}, {"a", api.ErrForm, 1}, {"a int8 b", api.ErrForm, 7}, {"a int8\"", api.ErrForm, 6},
		{"  9 int8", api.ErrName, 2}, {" a null", api.ErrNull, 1}, {"a list(  9 int8)", api.ErrName, 9}, {" a struct(b int8, b int8)", api.ErrTwice, 18}, {"\ta dict(40, int8, w text)", api.ErrKind, 1},
		{" " + strings.Repeat("a list(", 64) + "b int8" + strings.Repeat(")", 64), api.ErrDeep, 449},
	} {
		f, e, at := ParseField(x.text)
		if e != x.e || at != x.at || e != api.OK && !reflect.DeepEqual(f, api.Field{}) {
			t.Errorf("ParseField(%q) = %v, %d, %d, want %d, %d", x.text, f, e, at, x.e, x.at)
		}
		if _, e, at := modelParse(x.text, true); e != x.e || at != x.at {
			t.Errorf("the model of %q tells %d, %d", x.text, e, at)
		}
	}
}

// held holds what Parse and ParseField tell of a text against the model, and P3.11 besides.
func held(t *testing.T, text string) api.Errno {
	t.Helper()
	want, we, wat := modelParse(text, false)
	got, e, at := Parse(text)
	if e != we || at != wat || !sameSchema(got, want) {
		t.Fatalf("Parse(%q) = %v, %d, %d, want %v, %d, %d", text, got, e, at, want, we, wat)
	}
	if e == api.OK {
		printed, pe := Print(got)
		again, e, _ := Parse(printed)
		if pe != api.OK || e != api.OK || !sameSchema(again, want) {
			t.Fatalf("Parse(%q), printed: %q, read: %v", text, printed, again)
		}
	}
	alone, ae, aat := modelParse(text, true)
	f, fe, fat := ParseField(text)
	if fe != ae || fat != aat || fe == api.OK && !sameSchema(of(f), alone) || fe != api.OK && !reflect.DeepEqual(f, api.Field{}) {
		t.Fatalf("ParseField(%q) = %v, %d, %d, want %v, %d, %d", text, f, fe, fat, alone, ae, aat)
	}
	return e
}

// P3.9 to P3.11 against the model: texts of schemas, whole and hurt, with blanks; and these with bytes changed.
func TestTextModel(t *testing.T) {
	c := newChance(3)
	told := map[api.Errno]int{}
	letters := "()(),,??|\"\"\\\\x04afg9 \t\n;\x00\x80_a"
	pieces := []string{"int8", "list(", "a int8", "null?", ",", " | ", `"k" "t"`, "fixed(3)", "struct()", "dict(1, int8, w text)", "runs(", ")", `\x41`, "00"}
	for range 15000 {
		s := c.schema()
		printed, e := Print(s)
		if back, pe, _ := Parse(printed); e != api.OK || pe != api.OK || !sameSchema(back, s) {
			t.Fatalf("Parse(%q) = %v, %d", printed, back, pe)
		}
		if c.Intn(2) == 0 {
			s = c.hurt(s)
		}
		text := c.loose(s)
		told[held(t, text)]++
		for range c.Intn(3) {
			at := c.Intn(len(text) + 1)
			end := min(len(text), at+c.Intn(3))
			put := string(letters[c.Intn(len(letters))])
			switch c.Intn(4) {
			case 0:
				put = ""
			case 1:
				put = pieces[c.Intn(len(pieces))]
			}
			text = text[:at] + put + text[end:]
		}
		told[held(t, text)]++
		held(t, text[:c.Intn(len(text)+1)])
	}
	for _, e := range []api.Errno{api.OK, api.ErrForm, api.ErrName, api.ErrTwice, api.ErrKind, api.ErrNull, api.ErrDict} {
		if told[e] < 20 {
			t.Errorf("error %d came %d times", e, told[e])
		}
	}
}

// P3.11: fields, there and back.
func TestFieldThereAndBack(t *testing.T) {
	c := newChance(4)
	for range 5000 {
		for _, f := range c.schema().Fields {
			text, e := PrintField(f)
			got, pe, at := ParseField(text)
			if e != api.OK || pe != api.OK || at != 0 || !reflect.DeepEqual(got, f) {
				t.Fatalf("ParseField(%q) = %v, %d, %d", text, got, pe, at)
			}
		}
	}
}

// P3.12: what Parse answers is new memory each time.
func TestParseMemory(t *testing.T) {
	text, _ := Print(rich())
	a, _, _ := Parse(text)
	b, _, _ := Parse(text)
	spoil(a.Fields)
	a.Notes[0].Key = "spoilt"
	if !sameSchema(b, rich()) {
		t.Error("two answers of Parse share memory")
	}
	for i := range b.Fields {
		spoil(b.Fields[i].Type.Fields)
		for k := i + 1; k < len(b.Fields); k++ {
			if !reflect.DeepEqual(b.Fields[k], rich().Fields[k]) {
				t.Errorf("fields %d and %d share memory", i, k)
			}
		}
	}
}

// R1: a panic that is no reader's giving up is not taken for one.
func TestReadOtherPanic(t *testing.T) {
	defer func() {
		if x := recover(); x != "other" {
			t.Errorf("recovered %v", x)
		}
	}()
	read("", func(*reader) api.Schema { panic("other") })
}
