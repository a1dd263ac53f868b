package calc

import (
	"strings"
	"testing"

	"colonnade/api"
)

// P17.3: the tables of three values.
func TestThreeValues(t *testing.T) {
	b := twice("bool?")
	first, second := "true true true false false false null null null", "true false null true false null true false null"
	comesOut(t, api.OpAnd, b, []string{first, second}, "bool?", "true false null false false false null false null")
	comesOut(t, api.OpOr, b, []string{first, second}, "bool?", "true true true true false null true null null")
	comesOut(t, api.OpNot, b[:1], []string{"true false null"}, "bool?", "false true null")
	comesOut(t, api.OpAnd, []string{"bool", "bool?"}, []string{"true false", "null null"}, "bool?", "null false")
	comesOut(t, api.OpOr, twice("bool"), []string{"true false", "false false"}, "bool", "true false")
	comesOut(t, api.OpNot, []string{"bool"}, []string{"true false"}, "bool", "false true")
	comesOut(t, api.OpAnd, []string{"dict(0, int8, w bool)?", "runs(v bool?)?"}, []string{"null true true", "false true null"}, "bool?", "false true null")
}

// P17.3: who is null, by all ways of being it.
func TestIsNull(t *testing.T) {
	for _, x := range [][3]string{
		{"null?", "null null", "true true"},
		{"int8", "1 2", "false false"},
		{"struct(x int8?)?", "{x:null} null", "false true"},
		{"list(i int8?)?", "null [null] []", "true false false"},
		{"choice(x null?, y int8)", "x(null) y(1)", "false false"},
		{"dict(0, int8, w choice(x null?))?", "x(null) null", "false true"},
		{"runs(v text?)?", `null null "" ""`, "true true false false"},
		{"runs(v dict(0, int8, w text)?)?", `null "" "a"`, "true false false"},
		{"runs(v null?)?", "null", "true"},
	} {
		comesOut(t, api.OpIsNull, []string{x[0]}, []string{x[1]}, "bool", x[2])
	}
}

// P17.3: the first one, or else the second one; the second one where the first one is true; whole values, whatever their type.
func TestElseAndIf(t *testing.T) {
	comesOut(t, api.OpElse, twice("int8?"), []string{"null 1 null 2", "null null 3 4"}, "int8?", "null 1 3 2")
	comesOut(t, api.OpElse, []string{"int8", "int8?"}, []string{"1 2", "null 3"}, "int8", "1 2")
	comesOut(t, api.OpElse, twice("null?"), []string{"null null", "null null"}, "null?", "null null")
	comesOut(t, api.OpElse, []string{"dict(0, int8, w choice(x int8, y text))?", "choice(x int8, y text)"}, []string{`null y("a")`, `y("b") x(1)`}, "choice(x int8, y text)", `y("b") y("a")`)
	comesOut(t, api.OpElse, twice("list(i dict(0, int8, w text)?)?"), []string{`null ["a"] null`, `["b",null] ["c"] null`}, "list(i dict(0, int8, w text)?)?", `["b",null] ["a"] null`)
	comesOut(t, api.OpIf, []string{"bool?", "struct(x int8?)?", "runs(v struct(x int8?))"}, []string{"true true false null", "{x:1} null {x:3} {x:4}", "{x:5} {x:6} {x:null} {x:8}"}, "struct(x int8?)?", "{x:1} null {x:null} {x:8}")
	comesOut(t, api.OpIf, []string{"runs(v bool)", "span(2, i int8)", "dict(4, uint8, w span(2, i int8))"}, []string{"true false false", "[1,2] [3,4] [5,6]", "[7,8] [9,10] [9,10]"}, "span(2, i int8)", "[1,2] [9,10] [9,10]")
	comesOut(t, api.OpIf, []string{"bool", "null?", "null?"}, []string{"true", "null", "null"}, "null?", "null")
}

// P17.3: comparing, by the order of values of each kind: every value stands ahead of the next one.
func TestOrders(t *testing.T) {
	for _, x := range [][2]string{
		{"bool", "false true"},
		{"int8", "-128 -1 0 1 127"},
		{"int64", "-9223372036854775808 -1 0 9223372036854775807"},
		{"uint64", "0 1 9223372036854775807 9223372036854775808 18446744073709551615"},
		{"float64", "-nanfffffffffffff -nan0000000000001 -inf -1p0 -1p-1074 -0p0 0p0 1p-1074 1p0 inf nan0000000000001 nanfffffffffffff"},
		{"text", `"" "\x00" "a" "aa" "b" "é"`},
		{"bytes", `x"" x"00" x"7f" x"7f00" x"80" x"ff"`},
		{"fixed(2)", `x"0000" x"00ff" x"ff00"`},
		{"list(i int8?)", "[] [null] [null,1] [-1] [0] [0,null] [0,0]"},
		{"span(2, i uint8)", "[0,0] [0,255] [1,0]"},
		{"struct(x int8, y text?)", `{x:-1,y:"b"} {x:0,y:null} {x:0,y:""}`},
		{"choice(x text, y int8)", `x("") x("b") y(-1) y(0)`},
		{"dict(0, int8, w choice(x text, y null?))?", `x("") x("b") y(null)`},
		{"runs(v float64?)?", "-inf 0p0 inf"},
	} {
		texts := strings.Fields(x[1])
		for i, a := range texts {
			for j, b := range texts {
				f := field(t, "a "+x[0])
				is := map[int]bool{api.OpEq: i == j, api.OpNe: i != j, api.OpLt: i < j, api.OpLe: i <= j, api.OpGt: i > j, api.OpGe: i >= j}
				for op, want := range is {
					out := field(t, "a bool")
					out.Nullable = f.Nullable
					got := doOf(op, []api.Field{f, f}, data(t, f, a), data(t, f, b))
					same(t, x[0]+" "+a+" "+b, got, answer{d: formOf(t, out, []api.Value{flag(want)})})
				}
			}
		}
	}
}

// P17.3: null comes out of comparing, where one is null, also where both are.
func TestNullsCompared(t *testing.T) {
	for _, op := range compares {
		comesOut(t, op, twice("null?"), []string{"null null", "null null"}, "bool?", "null null")
		comesOut(t, op, twice("int8?"), []string{"null 1 null", "1 null null"}, "bool?", "null null null")
		comesOut(t, op, twice("dict(0, int8, w choice(x int8))?"), []string{"null x(1) null", "x(1) null null"}, "bool?", "null null null")
	}
	comesOut(t, api.OpEq, twice("list(i int8?)"), []string{"[null]", "[null]"}, "bool", "true")
	comesOut(t, api.OpEq, twice("struct()"), []string{"{}", "{}"}, "bool", "true")
}

// P17.3: texts, and how long they are.
func TestTexts(t *testing.T) {
	comesOut(t, api.OpGlue, twice("text"), []string{`"" "a" "" "é"`, `"" "" "b" "é"`}, "text", `"" "a" "b" "éé"`)
	comesOut(t, api.OpGlue, twice("bytes"), []string{`x"c3"`, `x"a9"`}, "bytes", `x"c3a9"`)
	comesOut(t, api.OpGlue, []string{"dict(0, int8, w text)?", "runs(v text)"}, []string{`"a" null "a"`, `"b" "b" "b"`}, "text?", `"ab" null "ab"`)
	first, second := `"abc" "abc" "abc" "abc" "abc" "" "" "aab" "abab"`, `"" "abc" "abcd" "c" "b" "" "a" "ab" "aba"`
	comesOut(t, api.OpBegins, twice("text"), []string{first, second}, "bool", "true true false false false true false false true")
	comesOut(t, api.OpHolds, twice("text"), []string{first, second}, "bool", "true true false true true true false true true")
	comesOut(t, api.OpHolds, twice("bytes"), []string{`x"c3a9" x"c3a9"`, `x"a9" x"a8"`}, "bool", "true false")
	comesOut(t, api.OpBegins, twice("bytes?"), []string{`x"c3a9" null x"00"`, `x"c3" x"" null`}, "bool?", "true null null")
	comesOut(t, api.OpLen, []string{"text?"}, []string{`"" "aé" null "\x00"`}, "int64?", "0 3 null 1")
	comesOut(t, api.OpLen, []string{"bytes"}, []string{`x"" x"ffff"`}, "int64", "0 2")
	comesOut(t, api.OpLen, []string{"fixed(16)?"}, []string{`x"00000000000000000000000000000000" null`}, "int64?", "16 null")
	comesOut(t, api.OpLen, []string{"list(i text?)?"}, []string{`[] [null,"abc"] null`}, "int64?", "0 2 null")
	comesOut(t, api.OpLen, []string{"span(3, i list(j int8))"}, []string{"[[],[1,2],[]]"}, "int64", "3")
	comesOut(t, api.OpLen, []string{"dict(0, int8, w list(i int8))"}, []string{"[1] [] [1]"}, "int64", "1 0 1")
}
