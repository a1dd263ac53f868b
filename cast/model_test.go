package cast

import (
	"fmt"
	"math"
	"math/big"
	"reflect"
	"strings"
	"testing"
	"unicode/utf8"

	"colonnade/api"
	"colonnade/build"
	"colonnade/kind"
	"colonnade/value"
)

var null = api.Value{Null: true}

// field reads a field's type, as `list(i int8)?`.
func field(t testing.TB, text string) api.Field {
	t.Helper()
	f, e, at := kind.ParseField("f " + text)
	if e != api.OK {
		t.Fatalf("%s: %d at %d", text, e, at)
	}
	return f
}

// one reads a value.
func one(t testing.TB, f api.Field, text string) api.Value {
	t.Helper()
	v, e, at := value.Parse(f, text)
	if e != api.OK {
		t.Fatalf("%s: %d at %d", text, e, at)
	}
	return v
}

// formOf is the build form of values.
func formOf(t testing.TB, f api.Field, l []api.Value) api.Data {
	t.Helper()
	d, e, at := build.Of(f, l)
	if e != api.OK {
		t.Fatalf("Of: %d at %d", e, at)
	}
	return d
}

// data is the build form of values that are given as text.
func data(t testing.TB, f api.Field, texts ...string) api.Data {
	t.Helper()
	var l []api.Value
	for _, s := range texts {
		l = append(l, one(t, f, s))
	}
	return formOf(t, f, l)
}

// lies tells how an array lies: two that lie alike are told alike, lists without elements too.
func lies(d api.Data) string {
	s := fmt.Sprintf("%d+%d %d %x (", d.Offset, d.Length, d.Nulls, d.Buffers)
	for _, x := range append(append([]api.Data(nil), d.Children...), d.Dict...) {
		s += lies(x)
	}
	return fmt.Sprintf("%s %d %d)", s, len(d.Children), len(d.Dict))
}

// holdsValue holds an answer of Value against what it must be.
func holdsValue(t testing.TB, what string, v api.Value, e api.Errno, want api.Value, err api.Errno) {
	t.Helper()
	if e != err || !value.Same(v, want) {
		t.Fatalf("%s: %v, %d, not %v, %d", what, v, e, want, err)
	}
	if e != api.OK && v.List != nil {
		t.Fatalf("%s: a list beside the error %d", what, e)
	}
}

// answer is what Cast answers.
type answer struct {
	d  api.Data
	e  api.Errno
	at int
}

func castOf(from api.Field, d api.Data, to api.Field, loose bool) answer {
	d, e, at := Cast(from, d, to, loose)
	return answer{d, e, at}
}

// holdsCast holds an answer of Cast against what it must be.
func holdsCast(t testing.TB, what string, got, want answer) {
	t.Helper()
	if got.e != want.e || got.at != want.at {
		t.Fatalf("%s: %d at %d, not %d at %d", what, got.e, got.at, want.e, want.at)
	}
	if got.e != api.OK && !reflect.DeepEqual(got.d, api.Data{}) {
		t.Fatalf("%s: an array beside the error %d", what, got.e)
	}
	if lies(got.d) != lies(want.d) {
		t.Fatalf("%s: %s, not %s", what, lies(got.d), lies(want.d))
	}
}

// modelPlain is the plain field by the chapter's words.
func modelPlain(f api.Field) api.Field {
	if f.Type.Kind != api.Dict && f.Type.Kind != api.Runs {
		return f
	}
	p := modelPlain(f.Type.Fields[0])
	p.Nullable = value.Fits(f, null) == api.OK
	return p
}

// modelClass is a letter for the kinds among which the ways are alike.
func modelClass(k int) string {
	return strings.Split("? N # # # # # # # # # # T B B L L S C", " ")[k]
}

// modelWay tells whether there is a way between fields that may be.
func modelWay(from, to api.Field) bool {
	a, b := modelPlain(from).Type, modelPlain(to).Type
	switch modelClass(a.Kind) + modelClass(b.Kind) {
	case "##", "#T", "T#", "TT", "TB", "BT", "BB", "NN", "N#", "NT", "NB", "NL", "NS":
		return true
	case "LL", "SS", "CC":
	default:
		return false
	}
	if len(a.Fields) != len(b.Fields) {
		return false
	}
	for i, f := range a.Fields {
		g := b.Fields[i]
		if modelClass(a.Kind) != "L" && f.Name != g.Name || !modelWay(f, g) {
			return false
		}
	}
	return true
}

// modelPair is what Value and Cast tell first.
func modelPair(from, to api.Field) api.Errno {
	switch {
	case kind.CheckField(from).Err != api.OK || kind.CheckField(to).Err != api.OK:
		return api.ErrType
	case !modelWay(from, to):
		return api.ErrCast
	}
	return api.OK
}

// modelWhole tells the whole number for which a Num of a kind stands.
func modelWhole(k int, n int64) *big.Int {
	if k == api.Uint64 {
		return new(big.Int).SetUint64(uint64(n))
	}
	return big.NewInt(n)
}

// modelNum tells the Num of a whole number, if it is in the range of a kind.
func modelNum(k int, x *big.Int) (int64, bool) {
	power := func(b uint) *big.Int { return new(big.Int).Lsh(big.NewInt(1), b) }
	least, beyond := new(big.Int), power(1)
	switch {
	case k >= api.Int8 && k <= api.Int64:
		beyond = power(8<<(k-api.Int8) - 1)
		least.Neg(beyond)
	case k >= api.Uint8:
		beyond = power(8 << (k - api.Uint8))
	}
	if x.Cmp(least) < 0 || x.Cmp(beyond) >= 0 {
		return 0, false
	}
	if x.IsInt64() {
		return x.Int64(), true
	}
	return int64(x.Uint64()), true
}

// modelNumber tells what a number becomes as one of another kind.
func modelNumber(from int, n int64, to int) (int64, bool) {
	switch {
	case from == to:
		return n, true
	case to == api.Float64:
		x, _ := new(big.Float).SetInt(modelWhole(from, n)).Float64()
		return int64(math.Float64bits(x)), true
	case from == api.Float64:
		x := math.Float64frombits(uint64(n))
		if math.IsNaN(x) || math.IsInf(x, 0) {
			return 0, false
		}
		ahead, _ := big.NewFloat(x).Int(nil)
		return modelNum(to, ahead)
	}
	return modelNum(to, modelWhole(from, n))
}

// modelText tells the text of a number.
func modelText(k int, n int64) string {
	if k == api.Bool {
		return []string{"false", "true"}[n]
	}
	if k != api.Float64 {
		return modelWhole(k, n).String()
	}
	x, sign := math.Float64frombits(uint64(n)), ""
	if n < 0 {
		sign = "-"
	}
	if math.IsNaN(x) {
		return fmt.Sprintf("%snan%013x", sign, uint64(n)&(1<<52-1))
	}
	if math.IsInf(x, 0) {
		return sign + "inf"
	}
	m, power := math.Frexp(math.Abs(x))
	if m == 0 {
		return sign + "0p0"
	}
	for m != math.Trunc(m) {
		m, power = 2*m, power-1
	}
	return fmt.Sprintf("%s%.0fp%d", sign, m, power)
}

// modelRead tells the number of a kind whose text it is: one that is told by digits, and is written just so.
func modelRead(text string, k int) (int64, bool) {
	x, ok := new(big.Int), true
	var n int64
	switch m, p, _ := strings.Cut(text, "p"); {
	case k == api.Bool:
		return int64(strings.Count(text, "true")), text == "true" || text == "false"
	case k != api.Float64:
		if _, ok = x.SetString(text, 10); ok {
			n, ok = modelNum(k, x)
		}
	case strings.HasSuffix(text, "inf"):
		n = 0x7ff << 52
	case strings.Contains(text, "nan"):
		fmt.Sscanf(text[strings.Index(text, "nan")+3:], "%x", &n)
		n |= 0x7ff << 52
	default:
		power := 0
		fmt.Sscanf(p, "%d", &power)
		if _, ok = x.SetString(m, 10); ok {
			y, _ := new(big.Float).SetMantExp(new(big.Float).SetInt(x), power).Float64()
			n = int64(math.Float64bits(y))
		}
	}
	if k == api.Float64 && strings.HasPrefix(text, "-") {
		n |= -1 << 63
	}
	return n, ok && modelText(k, n) == text
}

// modelTurned tells what a value becomes, but for its weight.
func modelTurned(from api.Field, v api.Value, to api.Field) (api.Value, bool) {
	from, to = modelPlain(from), modelPlain(to)
	if v.Null {
		return null, to.Nullable
	}
	a, b := from.Type, to.Type
	switch modelClass(a.Kind) + modelClass(b.Kind) {
	case "##":
		n, ok := modelNumber(a.Kind, v.Num, b.Kind)
		return api.Value{Num: n}, ok
	case "#T":
		return api.Value{Text: modelText(a.Kind, v.Num)}, true
	case "T#":
		n, ok := modelRead(v.Text, b.Kind)
		return api.Value{Num: n}, ok
	case "TT", "TB", "BT", "BB":
		ok := (b.Kind != api.Text || utf8.ValidString(v.Text)) && (b.Kind != api.Fixed || len(v.Text) == b.Width)
		return api.Value{Text: v.Text}, ok
	}
	if b.Kind == api.Span && len(v.List) != b.Width {
		return api.Value{}, false
	}
	w := api.Value{Num: v.Num}
	for i, x := range v.List {
		k := 0
		switch a.Kind {
		case api.Struct:
			k = i
		case api.Choice:
			k = int(v.Num)
		}
		y, ok := modelTurned(a.Fields[k], x, b.Fields[k])
		if !ok {
			return api.Value{}, false
		}
		w.List = append(w.List, y)
	}
	return w, true
}

// modelWeight is the weight of a value.
func modelWeight(v api.Value) int {
	w := 16 + len(v.Text)
	for _, x := range v.List {
		w += modelWeight(x)
	}
	return w
}

// modelBecome tells what a value becomes.
func modelBecome(from api.Field, v api.Value, to api.Field) (api.Value, bool) {
	w, ok := modelTurned(from, v, to)
	if !ok || modelWeight(w) > 4194304 {
		return api.Value{}, false
	}
	return w, true
}

// modelValue is Value by the chapter's words.
func modelValue(from api.Field, v api.Value, to api.Field) (api.Value, api.Errno) {
	if e := modelPair(from, to); e != api.OK {
		return api.Value{}, e
	}
	if value.Fits(from, v) != api.OK {
		return api.Value{}, api.ErrValue
	}
	w, ok := modelBecome(from, v, to)
	if !ok {
		return api.Value{}, api.ErrLost
	}
	return w, api.OK
}

// modelCast is Cast by the chapter's words, of an array that denotes values.
func modelCast(from api.Field, l []api.Value, to api.Field, loose bool) answer {
	if e := modelPair(from, to); e != api.OK {
		return answer{e: e}
	}
	var all []api.Value
	for i, v := range l {
		w, ok := modelBecome(from, v, to)
		if !ok && loose && value.Fits(to, null) == api.OK {
			w = null
		} else if !ok {
			return answer{e: api.ErrLost, at: i}
		}
		all = append(all, w)
	}
	d, e, at := build.Of(to, all)
	return answer{d, e, at}
}
