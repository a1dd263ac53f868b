package build

import (
	"encoding/hex"
	"strconv"
	"strings"
	"testing"

	"colonnade/api"
)

// printed is an array as the chapter's examples write it; those within in parentheses.
func printed(d api.Data) string {
	s := strconv.Itoa(d.Length)
	if d.Offset != 0 {
		s += ", Offset " + strconv.Itoa(d.Offset)
	}
	if d.Nulls != 0 {
		s += ", Nulls " + strconv.Itoa(d.Nulls)
	}
	s += " /"
	for k, b := range d.Buffers {
		if k > 0 {
			s += " ;"
		}
		if len(b) == 0 {
			s += " -"
		}
		for _, x := range b {
			s += " " + hex.EncodeToString([]byte{x})
		}
	}
	for _, p := range d.Children {
		s += " (" + printed(p) + ")"
	}
	for _, p := range d.Dict {
		s += " {" + printed(p) + "}"
	}
	return s
}

func TestExamples(t *testing.T) {
	for _, c := range []struct {
		field, values, want string
	}{
		{"int16", "1 -2", "2 / - ; 01 00 fe ff"},
		{"int16?", "1 null", "2, Nulls 1 / 01 ; 01 00 00 00"},
		{"bool", "true false true", "3 / - ; 05"},
		{"text?", `"ab" null "c"`, "3, Nulls 1 / 05 ; 00 00 00 00 02 00 00 00 02 00 00 00 03 00 00 00 ; 61 62 63"},
		{"span(2, i int8)?", "null [1,2]", "2, Nulls 1 / 02 (4 / - ; 00 00 01 02)"},
		{"struct(a int8, b text?)?", "null", "1, Nulls 1 / 00 (1 / - ; 00) (1, Nulls 1 / 00 ; 00 00 00 00 00 00 00 00 ; -)"},
		{"choice(a int8, b text)", `b("x") a(5) b("y")`, "3 / 01 00 01 ; 00 00 00 00 00 00 00 00 01 00 00 00 (1 / - ; 05) (2 / - ; 00 00 00 00 01 00 00 00 02 00 00 00 ; 78 79)"},
		{"dict(0, uint8, w text)?", `"b" null "a" "b"`, "4, Nulls 1 / 0d ; 00 00 01 00 {2 / - ; 00 00 00 00 01 00 00 00 02 00 00 00 ; 62 61}"},
		{"runs(v bool)", "true true false", "3 / (2 / - ; 02 00 00 00 03 00 00 00) (2 / - ; 01)"},
		{"null?", "null null", "2, Nulls 2 /"},
		{"text", "", "0 / - ; 00 00 00 00 ; -"},

		// Others, for the kinds that the chapter has no example of.
		{"fixed(2)?", `x"0102" null`, "2, Nulls 1 / 01 ; 01 02 00 00"},
		{"bytes", `x"ff" x""`, "2 / - ; 00 00 00 00 01 00 00 00 01 00 00 00 ; ff"},
		{"list(i int8?)?", "[1,null] null [] [2]", "4, Nulls 1 / 0d ; 00 00 00 00 02 00 00 00 02 00 00 00 02 00 00 00 03 00 00 00 (3, Nulls 1 / 05 ; 01 00 02)"},
		{"uint64", "18446744073709551615", "1 / - ; ff ff ff ff ff ff ff ff"},
		{"float64", "1p0 -0p0", "2 / - ; 00 00 00 00 00 00 f0 3f 00 00 00 00 00 00 00 80"},
		{"int32", "-2147483648", "1 / - ; 00 00 00 80"},
		{"runs(v int8?)?", "null null 1", "3 / (2 / - ; 02 00 00 00 03 00 00 00) (2, Nulls 1 / 02 ; 00 01)"},
		{"runs(v runs(w int8))", "1 1 2", "3 / (2 / - ; 02 00 00 00 03 00 00 00) (2 / (2 / - ; 01 00 00 00 02 00 00 00) (2 / - ; 01 02))"},
		{"runs(v int8)", "", "0 / (0 / - ; -) (0 / - ; -)"},
		{"choice(a int8)", "", "0 / - ; - (0 / - ; -)"},
		{"struct()", "{} {}", "2 / -"},
		{"struct()?", "null {}", "2, Nulls 1 / 02"},
		{"struct(a dict(0, int16, w int8))?", "null {a:0} {a:1}", "3, Nulls 1 / 06 (3 / - ; 00 00 00 00 01 00 {2 / - ; 00 01})"},
		{"struct(a choice(b fixed(1), c text))?", "null", "1, Nulls 1 / 00 (1 / 00 ; 00 00 00 00 (1 / - ; 00) (0 / - ; 00 00 00 00 ; -))"},
		{"bool?", "null null null null null null null null true", "9, Nulls 8 / 00 01 ; 00 01"},
	} {
		f := field(t, c.field)
		l := values(t, f, strings.Fields(c.values)...)
		d, e, at := Of(f, l)
		if e != api.OK || at != 0 || printed(d) != c.want {
			t.Errorf("Of(%s, [%s]): %s, %d, %d", c.field, c.values, printed(d), e, at)
		}
		if !IsForm(f, d) {
			t.Errorf("Of(%s, [%s]) is no build form", c.field, c.values)
		}
	}
	d, e := Empty(field(t, "text"))
	if e != api.OK || printed(d) != "0 / - ; 00 00 00 00 ; -" {
		t.Errorf("Empty: %s, %d", printed(d), e)
	}
}

func TestExamplesOfErrors(t *testing.T) {
	for _, c := range []struct {
		field string
		l     []api.Value
		e     api.Errno
		at    int
	}{
		{"int8", []api.Value{num(1), num(300), null}, api.ErrValue, 1},
		{"int8", times(4097, num(1)), api.ErrRows, 4096},
		{"text", []api.Value{long(65536), text(""), text("x")}, api.ErrBytes, 2},
		{"dict(0, int8, w int32)", upTo(129), api.ErrIndices, 128},
		{"span(64, i span(64, j int8?))?", []api.Value{null, null}, api.ErrRows, 1},
		{"list(i int8)", []api.Value{list(), list(make([]api.Value, 4000)...), list(make([]api.Value, 97)...)}, api.ErrRows, 2},
	} {
		d, e, at := Of(field(t, c.field), c.l)
		if e != c.e || at != c.at || !isZero(d) {
			t.Errorf("Of(%s): %d, %d", c.field, e, at)
		}
		if d, e, at := Of(field(t, c.field), c.l[:c.at]); e != api.OK || at != 0 || d.Length != c.at {
			t.Errorf("Of(%s) of those ahead: %d, %d", c.field, e, at)
		}
	}
}

func TestExampleOfForm(t *testing.T) {
	f := field(t, "int16")
	d := api.Data{Length: 1, Offset: 1, Buffers: [][]byte{nil, {9, 0, 7, 0, 255}}}
	x, e := Form(f, d)
	if e != api.OK || printed(x) != "1 / - ; 07 00" {
		t.Errorf("Form: %s, %d", printed(x), e)
	}
	if IsForm(f, d) || !IsForm(f, x) {
		t.Error("IsForm")
	}
}
