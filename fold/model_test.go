package fold

import (
	"fmt"
	"math"
	"math/big"
	"strings"
	"testing"

	"colonnade/api"
	"colonnade/build"
	"colonnade/kind"
	"colonnade/value"
)

var null = api.Value{Null: true}

// Numbers beside the operations that are none.
var noOps = []int{api.AggNone, -1, api.AggAll + 1, math.MinInt, math.MaxInt}

// operations are all of them.
func operations() []int {
	var l []int
	for op := api.AggCount; op <= api.AggAll; op++ {
		l = append(l, op)
	}
	return l
}

// field reads a field, as `a list(i int8)?`.
func field(t testing.TB, text string) api.Field {
	t.Helper()
	f, e, at := kind.ParseField(text)
	if e != api.OK {
		t.Fatalf("%s: %d at %d", text, e, at)
	}
	return f
}

// formOf is the build form of values.
func formOf(t testing.TB, f api.Field, l []api.Value) api.Data {
	t.Helper()
	d, e, at := build.Of(f, l)
	if e != api.OK {
		t.Fatalf("Of: %d at %d", e, at)
	}
	return d
}

// values reads values, as `1 null 3`.
func values(t testing.TB, f api.Field, texts string) []api.Value {
	t.Helper()
	var l []api.Value
	for _, s := range strings.Fields(texts) {
		v, e, at := value.Parse(f, s)
		if e != api.OK {
			t.Fatalf("%s: %d at %d", s, e, at)
		}
		l = append(l, v)
	}
	return l
}

// data is the build form of values that are given as text.
func data(t testing.TB, f api.Field, texts string) api.Data {
	t.Helper()
	return formOf(t, f, values(t, f, texts))
}

// lies tells how an array lies: two that lie alike are told alike, lists without elements too.
func lies(d api.Data) string {
	s := fmt.Sprintf("%d+%d %d %x (", d.Offset, d.Length, d.Nulls, d.Buffers)
	for _, x := range append(append([]api.Data(nil), d.Children...), d.Dict...) {
		s += lies(x)
	}
	return fmt.Sprintf("%s %d %d)", s, len(d.Children), len(d.Dict))
}

// newOf makes an aggregate that there is.
func newOf(t testing.TB, op int, f api.Field) *Fold {
	t.Helper()
	x, e := New(op, f)
	if e != api.OK {
		t.Fatalf("New(%d, %v): %d", op, f, e)
	}
	return x
}

// foldOf makes one that has taken in the values of some arrays.
func foldOf(t testing.TB, op int, f api.Field, l ...api.Data) *Fold {
	t.Helper()
	x := newOf(t, op, f)
	for _, d := range l {
		if e := x.Add(d); e != api.OK {
			t.Fatalf("Add: %d", e)
		}
	}
	return x
}

// holds holds what an aggregate comes to against what it must be.
func holds(t testing.TB, what string, x *Fold, want api.Value, err api.Errno) {
	t.Helper()
	v, e := x.Value()
	if e != err {
		t.Fatalf("%s: %d, not %d", what, e, err)
	}
	if !value.Same(v, want) {
		t.Fatalf("%s: %v, not %v", what, v, want)
	}
}

// modelBare is the bare field by the chapter's words.
func modelBare(f api.Field) api.Field {
	t := f.Type
	if t.Kind == api.Dict || t.Kind == api.Runs {
		child := modelBare(t.Fields[0])
		child.Name, child.Nullable = f.Name, f.Nullable
		return child
	}
	g := api.Field{Name: f.Name, Nullable: f.Nullable, Type: api.Type{Kind: t.Kind, Width: t.Width}}
	for _, x := range t.Fields {
		g.Type.Fields = append(g.Type.Fields, modelBare(x))
	}
	return g
}

// modelType is Type by the chapter's words.
func modelType(op int, f api.Field) (api.Field, api.Errno) {
	if kind.CheckField(f).Err != api.OK {
		return api.Field{}, api.ErrType
	}
	b := modelBare(f)
	b.Nullable = true
	of := func(k int) api.Field { return api.Field{Name: f.Name, Nullable: true, Type: api.Type{Kind: k}} }
	switch op {
	case api.AggCount, api.AggRows:
		return api.Field{Name: f.Name, Type: api.Type{Kind: api.Int64}}, api.OK
	case api.AggSum:
		out := strings.Split(",,,Int,Int,Int,Int,Uint,Uint,Uint,Uint,Float,,,,,,,", ",")[b.Type.Kind]
		if k := map[string]int{"Int": api.Int64, "Uint": api.Uint64, "Float": api.Float64}[out]; k != 0 {
			return of(k), api.OK
		}
		return api.Field{}, api.ErrType
	case api.AggMin, api.AggMax, api.AggFirst, api.AggLast:
		if kind.CheckField(b).Err == api.OK {
			return b, api.OK
		}
		return api.Field{}, api.ErrType
	case api.AggAny, api.AggAll:
		if b.Type.Kind == api.Bool {
			return of(api.Bool), api.OK
		}
		return api.Field{}, api.ErrType
	}
	return api.Field{}, api.ErrArg
}

// modelWhole tells the whole number for which a Num of a kind stands.
func modelWhole(k int, n int64) *big.Int {
	if k == api.Uint64 {
		return new(big.Int).SetUint64(uint64(n))
	}
	return big.NewInt(n)
}

// modelSum is the sum of whole numbers of a kind.
func modelSum(k int, l []api.Value) (api.Value, api.Errno) {
	sum := new(big.Int)
	for _, v := range l {
		sum.Add(sum, modelWhole(k, v.Num))
	}
	switch {
	case k <= api.Int64 && sum.IsInt64():
		return api.Value{Num: sum.Int64()}, api.OK
	case k >= api.Uint8 && sum.IsUint64():
		return api.Value{Num: int64(sum.Uint64())}, api.OK
	}
	return api.Value{}, api.ErrOverflow
}

// The bits of floating-point numbers.
const (
	signBit  = 1 << 63
	infinity = 0x7ff << 52
	nan      = 0x7ff8 << 48
)

// modelFloats is the sum of floating-point numbers: a sum of fractions, and the rest by cases.
func modelFloats(l []api.Value) uint64 {
	sum := new(big.Rat)
	bits := map[uint64]bool{}
	number, zeros := true, uint64(signBit)
	for _, v := range l {
		x := uint64(v.Num)
		switch {
		case x&^signBit > infinity:
			number = false
		case x&^signBit == infinity:
			bits[x] = true
		default:
			sum.Add(sum, new(big.Rat).SetFloat64(math.Float64frombits(x)))
		}
		if x != signBit {
			zeros = 0
		}
	}
	switch {
	case !number || len(bits) == 2:
		return nan
	case len(bits) == 1:
		for x := range bits {
			return x
		}
	case sum.Sign() == 0:
		return zeros
	}
	return modelNearest(sum)
}

// modelNearest is the number that is nearest to a fraction that is not 0. (Found by halving the bits: the numbers of one sign rise as their bits do.)
func modelNearest(r *big.Rat) uint64 {
	sign, x := uint64(0), new(big.Rat).Abs(r)
	if r.Sign() < 0 {
		sign = signBit
	}
	// What comes behind the greatest number is as far from it as that from the one ahead.
	of := func(bits uint64) *big.Rat {
		if bits == infinity {
			return new(big.Rat).SetInt(new(big.Int).Lsh(big.NewInt(1), 1024))
		}
		return new(big.Rat).SetFloat64(math.Float64frombits(bits))
	}
	low, high := uint64(0), uint64(infinity)
	if x.Cmp(of(high)) >= 0 {
		return sign | infinity
	}
	for high-low > 1 {
		if mid := (low + high) / 2; of(mid).Cmp(x) <= 0 {
			low = mid
		} else {
			high = mid
		}
	}
	down, up := new(big.Rat).Sub(x, of(low)), new(big.Rat).Sub(of(high), x)
	if c := down.Cmp(up); c > 0 || c == 0 && low%2 == 1 {
		return sign | high
	}
	return sign | low
}

// modelOrder is the order of two values that aren't null, of a type.
func modelOrder(t api.Type, a, b api.Value) int {
	f := func(i int) api.Field { return t.Fields[0] }
	switch k := t.Kind; {
	case k == api.Float64:
		// Laid on a line from the greatest number with a sign to the greatest one without.
		line := func(n int64) *big.Int {
			x := new(big.Int).SetUint64(uint64(n) &^ signBit)
			if n < 0 {
				x.Neg(x).Sub(x, big.NewInt(1))
			}
			return x
		}
		return line(a.Num).Cmp(line(b.Num))
	case k <= api.Uint64:
		return modelWhole(k, a.Num).Cmp(modelWhole(k, b.Num))
	case k == api.Text || k == api.Bytes || k == api.Fixed:
		return strings.Compare(a.Text, b.Text)
	case k == api.Dict || k == api.Runs:
		return modelOrder(t.Fields[0].Type, a, b)
	case k == api.Choice:
		if a.Num != b.Num {
			return int(a.Num - b.Num)
		}
		f = func(int) api.Field { return t.Fields[a.Num] }
	case k == api.Struct:
		f = func(i int) api.Field { return t.Fields[i] }
	}
	for i := range min(len(a.List), len(b.List)) {
		x, y := a.List[i], b.List[i]
		switch {
		case x.Null && y.Null:
		case x.Null:
			return -1
		case y.Null:
			return 1
		default:
			if c := modelOrder(f(i).Type, x, y); c != 0 {
				return c
			}
		}
	}
	return len(a.List) - len(b.List)
}

// flag is a Bool's value.
func flag(is bool) api.Value {
	return api.Value{Num: map[bool]int64{true: 1}[is]}
}

// modelValue is what values come to, by the chapter's table.
func modelValue(op int, f api.Field, l []api.Value) (api.Value, api.Errno) {
	t := modelBare(f).Type
	var some []api.Value
	for _, v := range l {
		if !v.Null {
			some = append(some, v)
		}
	}
	has := func(n int64) bool {
		for _, v := range some {
			if v.Num == n {
				return true
			}
		}
		return false
	}
	switch op {
	case api.AggCount:
		return api.Value{Num: int64(len(some))}, api.OK
	case api.AggRows:
		return api.Value{Num: int64(len(l))}, api.OK
	case api.AggFirst:
		return append(l[:len(l):len(l)], null)[0], api.OK
	case api.AggLast:
		return append([]api.Value{null}, l...)[len(l)], api.OK
	case api.AggAny, api.AggAll:
		by := op == api.AggAny
		switch {
		case has(flag(by).Num):
			return flag(by), api.OK
		case len(some) < len(l):
			return null, api.OK
		}
		return flag(!by), api.OK
	}
	if len(some) == 0 {
		return null, api.OK
	}
	switch {
	case op == api.AggSum && t.Kind == api.Float64:
		return api.Value{Num: int64(modelFloats(some))}, api.OK
	case op == api.AggSum:
		return modelSum(t.Kind, some)
	}
	for _, v := range some {
		best := true
		for _, w := range some {
			c := modelOrder(t, v, w)
			best = best && (c == 0 || (c < 0) == (op == api.AggMin))
		}
		if best {
			return v, api.OK
		}
	}
	panic("no value stands at the end")
}
