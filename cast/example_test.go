package cast

import (
	"math"
	"testing"

	"colonnade/api"
)

// bitsOf is the Num of a floating-point number.
func bitsOf(x float64) int64 { return int64(math.Float64bits(x)) }

// Example 1.
func TestExampleCan(t *testing.T) {
	for _, x := range []struct {
		from, to string
		want     bool
	}{
		{"int8", "uint64", true}, {"bool", "float64", true}, {"text", "int8", true}, {"fixed(2)", "text", true},
		{"null?", "int8", true}, {"dict(0, int8, w text)", "int64", true},
		{"list(i int8)", "text", false}, {"bytes", "int8", false}, {"int8", "null?", false},
		{"null?", "choice(a int8)", false}, {"struct(a int8)", "struct(b int8)", false},
	} {
		if got := Can(field(t, x.from), field(t, x.to)); got != x.want {
			t.Errorf("Can(%s, %s): %v", x.from, x.to, got)
		}
	}
}

// becomes holds Value against a value; all are given as what they hold.
func becomes(t *testing.T, from string, v api.Value, to string, want api.Value, err api.Errno) {
	t.Helper()
	w, e := Value(field(t, from), v, field(t, to))
	holdsValue(t, from+" to "+to, w, e, want, err)
}

func num(n int64) api.Value { return api.Value{Num: n} }

func float(x float64) api.Value { return num(bitsOf(x)) }

func text(s string) api.Value { return api.Value{Text: s} }

func list(l ...api.Value) api.Value { return api.Value{List: l} }

// Example 2.
func TestExampleNumbers(t *testing.T) {
	becomes(t, "int64", num(300), "uint8", api.Value{}, api.ErrLost)
	becomes(t, "int64", num(-1), "uint64", api.Value{}, api.ErrLost)
	becomes(t, "uint64", num(-1), "float64", num(0x43f0000000000000), api.OK)
	becomes(t, "int64", num(9007199254740993), "float64", float(9007199254740992), api.OK)
	becomes(t, "float64", float(-0.5), "int8", num(0), api.OK)
	becomes(t, "float64", float(1<<63), "int64", api.Value{}, api.ErrLost)
	becomes(t, "float64", float(1<<63), "uint64", num(-1<<63), api.OK)
	becomes(t, "float64", float(math.NaN()), "bool", api.Value{}, api.ErrLost)
	becomes(t, "float64", float(1.9), "bool", num(1), api.OK)
}

// Example 3.
func TestExampleTexts(t *testing.T) {
	becomes(t, "float64", float(1.5), "text", text("3p-1"), api.OK)
	becomes(t, "text", text("3p-1"), "float64", float(1.5), api.OK)
	becomes(t, "text", text("1.5"), "float64", api.Value{}, api.ErrLost)
	becomes(t, "text", text(" 1"), "int8", api.Value{}, api.ErrLost)
	becomes(t, "text", text("null"), "int8?", api.Value{}, api.ErrLost)
	becomes(t, "bool", num(1), "text", text("true"), api.OK)
	becomes(t, "int8", num(1), "bool", num(1), api.OK)
}

// Example 4.
func TestExampleLists(t *testing.T) {
	becomes(t, "list(i int64)", list(num(1), num(300)), "list(i int8)", api.Value{}, api.ErrLost)
	from, to := field(t, "list(i int64)?"), field(t, "list(i int8)?")
	d := data(t, from, "[1]", "[1,300]", "null")
	holdsCast(t, "loose", castOf(from, d, to, true), answer{d: data(t, to, "[1]", "null", "null")})
	to.Nullable = false
	holdsCast(t, "no null is let", castOf(from, d, to, true), answer{e: api.ErrLost, at: 1})
}

// Example 5.
func TestExampleDict(t *testing.T) {
	words, bytes := field(t, "dict(0, uint8, w text)?"), field(t, "int8?")
	d := castOf(words, data(t, words, `"1"`, `"x"`, `"1"`), bytes, true)
	holdsCast(t, "to int8", d, answer{d: api.Data{Length: 3, Nulls: 1, Buffers: [][]byte{{5}, {1, 0, 1}}}})
	back := castOf(bytes, d.d, words, false)
	known := api.Data{Length: 1, Buffers: [][]byte{nil, {0, 0, 0, 0, 1, 0, 0, 0}, {'1'}}}
	holdsCast(t, "back", back, answer{d: api.Data{Length: 3, Nulls: 1, Buffers: [][]byte{{5}, {0, 0, 0}}, Dict: []api.Data{known}}})
}
