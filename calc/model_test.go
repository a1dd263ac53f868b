package calc

import (
	"fmt"
	"math"
	"math/big"
	"reflect"
	"strings"
	"testing"

	"colonnade/api"
	"colonnade/build"
	"colonnade/kind"
	"colonnade/value"
)

var null = api.Value{Null: true}

// The operations, and numbers beside them that are none.
var (
	reckons  = []int{api.OpAdd, api.OpSub, api.OpMul, api.OpDiv, api.OpRem}
	compares = []int{api.OpEq, api.OpNe, api.OpLt, api.OpLe, api.OpGt, api.OpGe}
	wholes   = []int{api.Int8, api.Int16, api.Int32, api.Int64, api.Uint8, api.Uint16, api.Uint32, api.Uint64}
	noOps    = []int{api.OpNone, -1, api.OpCast, api.OpColumn, api.OpLiteral, api.OpLiteral + 1, math.MinInt, math.MaxInt}
)

// field reads a field, as `a list(i int8)?`.
func field(t testing.TB, text string) api.Field {
	t.Helper()
	f, e, at := kind.ParseField(text)
	if e != api.OK {
		t.Fatalf("%s: %d at %d", text, e, at)
	}
	return f
}

// fields reads some of them, called a, b, c, by their types.
func fields(t testing.TB, types ...string) []api.Field {
	t.Helper()
	var l []api.Field
	for i, s := range types {
		l = append(l, field(t, string(rune('a'+i))+" "+s))
	}
	return l
}

// formOf is the build form of values.
func formOf(t testing.TB, f api.Field, l []api.Value) api.Data {
	t.Helper()
	d, e, at := build.Of(f, l)
	if e != api.OK {
		t.Fatalf("Of: %d at %d", e, at)
	}
	return d
}

// values reads values, as `1 null 3`.
func values(t testing.TB, f api.Field, texts string) []api.Value {
	t.Helper()
	var l []api.Value
	for _, s := range strings.Fields(texts) {
		v, e, at := value.Parse(f, s)
		if e != api.OK {
			t.Fatalf("%s: %d at %d", s, e, at)
		}
		l = append(l, v)
	}
	return l
}

// data is the build form of values that are given as text.
func data(t testing.TB, f api.Field, texts string) api.Data {
	t.Helper()
	return formOf(t, f, values(t, f, texts))
}

// lies tells how an array lies: two that lie alike are told alike, lists without elements too.
func lies(d api.Data) string {
	s := fmt.Sprintf("%d+%d %d %x (", d.Offset, d.Length, d.Nulls, d.Buffers)
	for _, x := range append(append([]api.Data(nil), d.Children...), d.Dict...) {
		s += lies(x)
	}
	return fmt.Sprintf("%s %d %d)", s, len(d.Children), len(d.Dict))
}

// answer is what Do answers.
type answer struct {
	d  api.Data
	e  api.Errno
	at int
}

func doOf(op int, l []api.Field, d ...api.Data) answer {
	x, e, at := Do(op, l, d)
	return answer{x, e, at}
}

// same holds an answer of Do against what it must be.
func same(t testing.TB, what string, got, want answer) {
	t.Helper()
	if got.e != want.e || got.at != want.at {
		t.Fatalf("%s: %d at %d, not %d at %d", what, got.e, got.at, want.e, want.at)
	}
	if got.e != api.OK && !reflect.DeepEqual(got.d, api.Data{}) {
		t.Fatalf("%s: an array beside the error %d", what, got.e)
	}
	if lies(got.d) != lies(want.d) {
		t.Fatalf("%s: %s, not %s", what, lies(got.d), lies(want.d))
	}
}

// modelPlain is the plain field by the chapter's words.
func modelPlain(f api.Field) api.Field {
	switch f.Type.Kind {
	case api.Dict:
		p := f.Type.Fields[0]
		p.Nullable = f.Nullable
		return modelPlain(p)
	case api.Runs:
		return modelPlain(f.Type.Fields[0])
	}
	return f
}

// rule is a line of the chapter's table.
type rule struct {
	args              int
	takes, out, nulls string
}

// modelRule tells an operation's line.
func modelRule(op int) rule {
	switch op {
	case api.OpAdd, api.OpSub, api.OpMul, api.OpDiv:
		return rule{2, "whole float", "same", "one"}
	case api.OpRem:
		return rule{2, "whole", "same", "one"}
	case api.OpNeg:
		return rule{1, "signed float", "same", "one"}
	case api.OpEq, api.OpNe, api.OpLt, api.OpLe, api.OpGt, api.OpGe:
		return rule{2, "all", "bool", "one"}
	case api.OpAnd, api.OpOr:
		return rule{2, "bool", "bool", "one"}
	case api.OpNot:
		return rule{1, "bool", "bool", "one"}
	case api.OpIsNull:
		return rule{1, "all", "bool", "no"}
	case api.OpElse:
		return rule{2, "all", "same", "both"}
	case api.OpIf:
		return rule{3, "all", "same", "one"}
	case api.OpGlue:
		return rule{2, "text bytes", "same", "one"}
	case api.OpLen:
		return rule{1, "text bytes fixed list span", "int64", "one"}
	case api.OpBegins, api.OpHolds:
		return rule{2, "text bytes", "bool", "one"}
	}
	return rule{}
}

// modelWords tells the words of the table that a kind has.
func modelWords(k int) string {
	return strings.Split("?,,bool,whole signed,whole signed,whole signed,whole signed,whole,whole,whole,whole,float,text,bytes,fixed,list,span,,", ",")[k] + " all"
}

// typeText is the text of a type: alike ones have one text.
func typeText(t api.Type) string {
	s, e := kind.PrintField(api.Field{Name: "x", Nullable: t.Kind == api.Null, Type: t})
	if e != api.OK {
		panic(e)
	}
	return s
}

// modelType is Type by the chapter's words.
func modelType(op int, l []api.Field) (api.Field, api.Errno) {
	r := modelRule(op)
	if r.args == 0 || len(l) != r.args {
		return api.Field{}, api.ErrArg
	}
	var p []api.Field
	for _, f := range l {
		if kind.CheckField(f).Err != api.OK {
			return api.Field{}, api.ErrType
		}
		p = append(p, modelPlain(f))
	}
	if op == api.OpIf {
		if p[0].Type.Kind != api.Bool {
			return api.Field{}, api.ErrType
		}
		p = p[1:]
	}
	taken := false
	for _, w := range strings.Fields(modelWords(p[0].Type.Kind)) {
		taken = taken || strings.Contains(" "+r.takes+" ", " "+w+" ")
	}
	if !taken || typeText(p[0].Type) != typeText(p[len(p)-1].Type) {
		return api.Field{}, api.ErrType
	}
	one, both := false, true
	for _, f := range p {
		one, both = one || f.Nullable, both && f.Nullable
	}
	out := api.Field{Name: l[0].Name, Type: p[0].Type}
	out.Nullable = map[string]bool{"one": one, "both": both}[r.nulls]
	switch r.out {
	case "bool":
		out.Type = api.Type{Kind: api.Bool}
	case "int64":
		out.Type = api.Type{Kind: api.Int64}
	}
	if out.Type.Kind == api.Choice && out.Nullable {
		return api.Field{}, api.ErrType
	}
	return out, api.OK
}

// modelWhole tells the whole number for which a Num of a kind stands.
func modelWhole(k int, n int64) *big.Int {
	if k == api.Uint64 {
		return new(big.Int).SetUint64(uint64(n))
	}
	return big.NewInt(n)
}

// modelNum tells the Num of a whole number, if it is in the range of a kind.
func modelNum(k int, x *big.Int) (int64, bool) {
	power := func(b uint) *big.Int { return new(big.Int).Lsh(big.NewInt(1), b) }
	least, beyond := new(big.Int), power(8<<max(0, k-api.Uint8))
	if k <= api.Int64 {
		beyond = power(8<<(k-api.Int8) - 1)
		least.Neg(beyond)
	}
	if x.Cmp(least) < 0 || x.Cmp(beyond) >= 0 {
		return 0, false
	}
	if x.IsInt64() {
		return x.Int64(), true
	}
	return int64(x.Uint64()), true
}

// modelReckon reckons with whole numbers of any size.
func modelReckon(op, k int, v []api.Value) (api.Value, api.Errno) {
	a, b := new(big.Int), modelWhole(k, v[0].Num)
	if len(v) == 2 {
		a, b = b, modelWhole(k, v[1].Num)
	}
	x := new(big.Int)
	switch op {
	case api.OpAdd:
		x.Add(a, b)
	case api.OpSub, api.OpNeg:
		x.Sub(a, b)
	case api.OpMul:
		x.Mul(a, b)
	default:
		if b.Sign() == 0 {
			return api.Value{}, api.ErrZero
		}
		x.Quo(a, b)
		if op == api.OpRem {
			x.Sub(a, x.Mul(x, b))
		}
	}
	n, ok := modelNum(k, x)
	if !ok {
		return api.Value{}, api.ErrOverflow
	}
	return api.Value{Num: n}, api.OK
}

// The bits of floating-point numbers.
const (
	signBit  = 1 << 63
	infinity = 0x7ff << 52
	nan      = 0x7ff8 << 48
)

// modelFloat reckons with exact fractions, and with the rest by cases.
func modelFloat(op int, a, b uint64) uint64 {
	if op == api.OpSub {
		return modelFloat(api.OpAdd, a, b^signBit)
	}
	x, y := a&^signBit, b&^signBit
	sign := (a ^ b) & signBit
	switch {
	case x > infinity || y > infinity:
		return nan
	case op == api.OpAdd:
		return modelSum(a, b)
	case op == api.OpMul && (x == infinity && y == 0 || x == 0 && y == infinity):
		return nan
	case op == api.OpDiv && x == y && (x == 0 || x == infinity):
		return nan
	case op == api.OpMul && (x == infinity || y == infinity), op == api.OpDiv && (x == infinity || y == 0):
		return infinity | sign
	case x == 0 || y == 0 || y == infinity:
		return sign
	case op == api.OpMul:
		return sign | nearest(new(big.Rat).Mul(fraction(x), fraction(y)))
	}
	return sign | nearest(new(big.Rat).Quo(fraction(x), fraction(y)))
}

// modelSum is the sum of two numbers.
func modelSum(a, b uint64) uint64 {
	x, y := a&^signBit, b&^signBit
	switch {
	case x == infinity && y == infinity && a != b:
		return nan
	case x == infinity:
		return a
	case y == infinity:
		return b
	}
	r := new(big.Rat).Add(fraction(a), fraction(b))
	if r.Sign() == 0 {
		return a & b & signBit
	}
	return nearest(r)
}

// fraction is a number that is no infinity.
func fraction(x uint64) *big.Rat { return new(big.Rat).SetFloat64(math.Float64frombits(x)) }

// nearest is the number that is nearest to a fraction.
func nearest(r *big.Rat) uint64 {
	x, _ := r.Float64()
	return math.Float64bits(x)
}

// modelOrder is the order of two values that aren't null, of a type.
func modelOrder(t api.Type, a, b api.Value) int {
	f := func(i int) api.Field { return t.Fields[0] }
	switch k := t.Kind; {
	case k == api.Float64:
		// Laid on a line from the greatest number with a sign to the greatest one without.
		line := func(n int64) *big.Int {
			x := new(big.Int).SetUint64(uint64(n) &^ signBit)
			if n < 0 {
				x.Neg(x).Sub(x, big.NewInt(1))
			}
			return x
		}
		return line(a.Num).Cmp(line(b.Num))
	case k <= api.Uint64:
		return modelWhole(k, a.Num).Cmp(modelWhole(k, b.Num))
	case k == api.Text || k == api.Bytes || k == api.Fixed:
		return strings.Compare(a.Text, b.Text)
	case k == api.Dict || k == api.Runs:
		return modelOrder(t.Fields[0].Type, a, b)
	case k == api.Choice:
		if a.Num != b.Num {
			return int(a.Num - b.Num)
		}
		f = func(int) api.Field { return t.Fields[a.Num] }
	case k == api.Struct:
		f = func(i int) api.Field { return t.Fields[i] }
	}
	for i := range min(len(a.List), len(b.List)) {
		x, y := a.List[i], b.List[i]
		switch {
		case x.Null && y.Null:
		case x.Null:
			return -1
		case y.Null:
			return 1
		default:
			if c := modelOrder(f(i).Type, x, y); c != 0 {
				return c
			}
		}
	}
	return len(a.List) - len(b.List)
}

// flag is a Bool's value.
func flag(is bool) api.Value {
	return api.Value{Num: map[bool]int64{true: 1}[is]}
}

// modelLogic is what the operations tell that look at nulls; false: it is none of them.
func modelLogic(op int, v []api.Value) (api.Value, bool) {
	letter := func(x api.Value) string {
		if x.Null {
			return "n"
		}
		return string("ft"[x.Num])
	}
	switch op {
	case api.OpIsNull:
		return flag(v[0].Null), true
	case api.OpElse:
		return v[map[bool]int{true: 1}[v[0].Null]], true
	case api.OpIf:
		return v[map[bool]int{true: 1, false: 2}[letter(v[0]) == "t"]], true
	case api.OpAnd:
		c := map[string]string{"tt": "t", "tn": "n", "nt": "n", "nn": "n"}[letter(v[0])+letter(v[1])]
		return map[string]api.Value{"t": flag(true), "n": null}[c], true
	case api.OpOr:
		c := map[string]string{"ff": "f", "fn": "n", "nf": "n", "nn": "n"}[letter(v[0])+letter(v[1])]
		return map[string]api.Value{"": flag(true), "n": null, "f": {}}[c], true
	}
	return api.Value{}, false
}

// modelRow is what comes out of a row, by the plain type of the first argument.
func modelRow(op int, t api.Type, v []api.Value) (api.Value, api.Errno) {
	if w, ok := modelLogic(op, v); ok {
		return w, api.OK
	}
	for _, x := range v {
		if x.Null {
			return null, api.OK
		}
	}
	switch {
	case op == api.OpNeg && t.Kind == api.Float64:
		return api.Value{Num: int64(uint64(v[0].Num) ^ signBit)}, api.OK
	case op <= api.OpDiv && t.Kind == api.Float64:
		return api.Value{Num: int64(modelFloat(op, uint64(v[0].Num), uint64(v[1].Num)))}, api.OK
	case op <= api.OpNeg:
		return modelReckon(op, t.Kind, v)
	case op <= api.OpGe:
		signs := map[int]string{api.OpEq: "=", api.OpNe: "<>", api.OpLt: "<", api.OpLe: "<=", api.OpGt: ">", api.OpGe: ">="}[op]
		c := modelOrder(t, v[0], v[1])
		return flag(strings.Contains(signs, string("<=>"[1+max(-1, min(1, c))]))), api.OK
	case op == api.OpNot:
		return api.Value{Num: 1 - v[0].Num}, api.OK
	case op == api.OpGlue:
		return api.Value{Text: string(append([]byte(v[0].Text), v[1].Text...))}, api.OK
	case op == api.OpLen && t.Kind <= api.Fixed:
		return api.Value{Num: int64(len(v[0].Text))}, api.OK
	case op == api.OpLen:
		return api.Value{Num: int64(len(v[0].List))}, api.OK
	}
	x, y := v[0].Text, v[1].Text
	for at := 0; at+len(y) <= len(x); at++ {
		if (at == 0 || op == api.OpHolds) && x[at:at+len(y)] == y {
			return flag(true), api.OK
		}
	}
	return api.Value{}, api.OK
}

// modelDo is Do of columns that are all of one length.
func modelDo(op int, l []api.Field, columns [][]api.Value) answer {
	f, e := modelType(op, l)
	if e != api.OK {
		return answer{e: e}
	}
	var list []api.Value
	for i := range columns[0] {
		var v []api.Value
		for _, c := range columns {
			v = append(v, c[i])
		}
		w, e := modelRow(op, modelPlain(l[0]).Type, v)
		if e != api.OK {
			return answer{e: e, at: i}
		}
		list = append(list, w)
	}
	d, e, at := build.Of(f, list)
	return answer{d, e, at}
}
