package calc

import (
	"math"
	"strings"
	"testing"

	"colonnade/api"
)

func num(n int64) api.Value { return api.Value{Num: n} }

func text(s string) api.Value { return api.Value{Text: s} }

func list(l ...api.Value) api.Value { return api.Value{List: l} }

func float(x float64) api.Value { return num(int64(math.Float64bits(x))) }

// bitsOf are values of Float64 by their bits.
func bitsOf(l ...uint64) []api.Value {
	var out []api.Value
	for _, x := range l {
		out = append(out, num(int64(x)))
	}
	return out
}

// comesOut holds Do of columns, given as text, against a column, given as text, of the field called a; types are the arguments', a blank between each two columns' values.
func comesOut(t *testing.T, op int, types []string, columns []string, out, want string) {
	t.Helper()
	l := fields(t, types...)
	var d []api.Data
	for k, s := range columns {
		d = append(d, data(t, l[k], s))
	}
	same(t, strings.Join(columns, "; "), doOf(op, l, d...), answer{d: data(t, field(t, "a "+out), want)})
}

// refused holds Do of columns against an error and its row.
func refused(t *testing.T, op int, types []string, columns []string, e api.Errno, at int) {
	t.Helper()
	l := fields(t, types...)
	var d []api.Data
	for k, s := range columns {
		d = append(d, data(t, l[k], s))
	}
	same(t, strings.Join(columns, "; "), doOf(op, l, d...), answer{e: e, at: at})
}

// twice is two arguments of one type.
func twice(s string) []string { return []string{s, s} }

// typeIs holds Type against a field, given as text; none: an error.
func typeIs(t *testing.T, op int, types []string, want string, err api.Errno) {
	t.Helper()
	f, e := Type(op, fields(t, types...))
	var g api.Field
	if err == api.OK {
		g = field(t, want)
	}
	sameField(t, strings.Join(types, "; "), f, e, g, err)
}

// Example 1.
func TestExampleType(t *testing.T) {
	typeIs(t, api.OpAdd, []string{"int8", "int8?"}, "a int8?", api.OK)
	typeIs(t, api.OpAdd, []string{"int8", "int16"}, "", api.ErrType)
	typeIs(t, api.OpEq, []string{"dict(0, int8, v text)?", "text"}, "a bool?", api.OK)
	typeIs(t, api.OpElse, []string{"int8?", "int8"}, "a int8", api.OK)
	typeIs(t, api.OpNeg, []string{"uint8"}, "", api.ErrType)
	typeIs(t, api.OpCast, []string{"int8"}, "", api.ErrArg)
	typeIs(t, api.OpCast, []string{"int8", "int8"}, "", api.ErrArg)
	typeIs(t, api.OpAdd, []string{"int8"}, "", api.ErrArg)
}

// Example 2.
func TestExampleWhole(t *testing.T) {
	comesOut(t, api.OpAdd, twice("int8?"), []string{"100 null", "27 1"}, "int8?", "127 null")
	refused(t, api.OpAdd, twice("int8"), []string{"1 100", "1 28"}, api.ErrOverflow, 1)
	refused(t, api.OpSub, twice("uint8"), []string{"0", "1"}, api.ErrOverflow, 0)
	comesOut(t, api.OpDiv, twice("int8"), []string{"-7 7 -128", "2 -2 1"}, "int8", "-3 -3 -128")
	refused(t, api.OpDiv, twice("int8"), []string{"-128", "-1"}, api.ErrOverflow, 0)
	refused(t, api.OpDiv, twice("int8"), []string{"1", "0"}, api.ErrZero, 0)
	comesOut(t, api.OpRem, twice("int8"), []string{"-7 -128", "2 -1"}, "int8", "-1 0")
}

// Example 3.
func TestExampleGreat(t *testing.T) {
	refused(t, api.OpMul, twice("uint64"), []string{"4294967296", "4294967296"}, api.ErrOverflow, 0)
	comesOut(t, api.OpMul, twice("uint64"), []string{"9223372036854775808", "1"}, "uint64", "9223372036854775808")
}

// Example 4.
func TestExampleFloat(t *testing.T) {
	l := fields(t, "float64", "float64")
	zero, minus := 0.0, math.Copysign(0, -1)
	for _, x := range []struct {
		op         int
		a, b, want api.Value
	}{
		{api.OpAdd, float(0.1), float(0.2), num(0x3fd3333333333334)},
		{api.OpDiv, float(1), float(zero), float(math.Inf(1))},
		{api.OpDiv, float(zero), float(zero), num(0x7ff8000000000000)},
		{api.OpAdd, num(0x7ff0000000000001), float(1), num(0x7ff8000000000000)},
		{api.OpAdd, num(-1), float(1), num(0x7ff8000000000000)},
		{api.OpAdd, float(minus), float(zero), float(zero)},
		{api.OpDiv, num(1), float(2), float(zero)},
		{api.OpMul, float(math.MaxFloat64), float(2), float(math.Inf(1))},
	} {
		got := doOf(x.op, l, formOf(t, l[0], []api.Value{x.a}), formOf(t, l[1], []api.Value{x.b}))
		same(t, "a float", got, answer{d: formOf(t, l[0], []api.Value{x.want})})
	}
	comesOut(t, api.OpEq, twice("float64"), []string{"nan8000000000001 nan8000000000001", "nan8000000000001 -nan8000000000001"}, "bool", "true false")
	comesOut(t, api.OpLt, twice("float64"), []string{"-0p0 0p0", "0p0 -0p0"}, "bool", "true false")
}

// Example 5.
func TestExampleLogic(t *testing.T) {
	comesOut(t, api.OpAnd, twice("bool?"), []string{"true false", "null null"}, "bool?", "null false")
	comesOut(t, api.OpOr, twice("bool?"), []string{"null", "true"}, "bool?", "true")
	comesOut(t, api.OpNot, []string{"bool?"}, []string{"null"}, "bool?", "null")
	comesOut(t, api.OpIsNull, []string{"int8?"}, []string{"1 null"}, "bool", "false true")
	comesOut(t, api.OpElse, []string{"int8?", "int8"}, []string{"null 2", "7 8"}, "int8", "7 2")
	comesOut(t, api.OpIf, []string{"bool?", "text", "text"}, []string{"true false null", `"a" "b" "c"`, `"x" "y" "z"`}, "text", `"a" "y" "z"`)
}

// Example 6.
func TestExampleTexts(t *testing.T) {
	comesOut(t, api.OpGlue, []string{"text?", "text"}, []string{`"ab" null`, `"c" "d"`}, "text?", `"abc" null`)
	comesOut(t, api.OpLen, []string{"text"}, []string{`"é"`}, "int64", "2")
	comesOut(t, api.OpLen, []string{"list(i int8)"}, []string{"[] [1,2]"}, "int64", "0 2")
	comesOut(t, api.OpBegins, twice("text"), []string{`"abc"`, `"ab"`}, "bool", "true")
	comesOut(t, api.OpHolds, twice("text"), []string{`"abc" "abc"`, `"bc" ""`}, "bool", "true true")
}

// The document's eighth example: a quotient by 0 is refused wherever its row stands.
func TestExampleOfTheWhole(t *testing.T) {
	refused(t, api.OpDiv, twice("int64"), []string{"6 6 6", "1 2 0"}, api.ErrZero, 2)
}
