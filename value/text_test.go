package value

import (
	"math"
	"math/big"
	"strconv"
	"strings"
	"testing"

	"colonnade/api"
)

// readAs holds Print and Parse against a value's text.
func readAs(t *testing.T, f api.Field, v api.Value, want string) {
	t.Helper()
	if got, e := Print(f, v); got != want || e != api.OK {
		t.Errorf("Print(%v, %v) = %s, %d, want %s", f, v, got, e, want)
	}
	if got, e, at := Parse(f, want); !sameInAll(got, v) || e != api.OK || at != 0 {
		t.Errorf("Parse(%v, %s) = %v, %d, %d, want %v", f, want, got, e, at, v)
	}
	if got := modelText(f, v); got != want {
		t.Errorf("the model tells %s, not %s", got, want)
	}
}

// refused holds Parse against a fault.
func refused(t *testing.T, f api.Field, s string, e api.Errno, at int) {
	t.Helper()
	if v, got, place := Parse(f, s); got != e || place != at || !isNone(v) {
		t.Errorf("Parse(%v, %.80q) = %v, %d, %d, want %d, %d", f, s, v, got, place, e, at)
	}
	if got, place := modelParse(f, s); got != e || place != at {
		t.Errorf("the model tells %d, %d, not %d, %d, of %.80q", got, place, e, at, s)
	}
}

// P4.1: the text of each kind.
func TestTexts(t *testing.T) {
	i8 := plain("i", api.Int8)
	readAs(t, maybe(plain("n", api.Null)), null, "null")
	readAs(t, maybe(i8), null, "null")
	readAs(t, plain("b", api.Bool), num(0), "false")
	readAs(t, plain("b", api.Bool), num(1), "true")
	for k := api.Int8; k <= api.Uint64; k++ {
		f, b := plain("i", k), modelBits(k)
		for _, n := range []int64{0, 1, 9, 10, 127} {
			readAs(t, f, num(n), strconv.FormatInt(n, 10))
		}
		if isSigned(k) {
			readAs(t, f, num(-1<<(b-1)), strconv.FormatInt(-1<<(b-1), 10))
			readAs(t, f, num(1<<(b-1)-1), strconv.FormatInt(1<<(b-1)-1, 10))
			refused(t, f, new(big.Int).Lsh(big.NewInt(1), uint(b-1)).String(), api.ErrForm, 0)
			refused(t, f, new(big.Int).Add(new(big.Int).Lsh(big.NewInt(-1), uint(b-1)), big.NewInt(-1)).String(), api.ErrForm, 0)
		} else {
			readAs(t, f, num(int64(uint64(math.MaxUint64)>>(64-b))), strconv.FormatUint(math.MaxUint64>>(64-b), 10))
			refused(t, f, new(big.Int).Lsh(big.NewInt(1), uint(b)).String(), api.ErrForm, 0)
			refused(t, f, "-1", api.ErrForm, 0)
		}
	}
	readAs(t, plain("t", api.Text), text(""), `""`)
	readAs(t, plain("t", api.Text), text("\t\n\r\"\\'/ !~"), `"\t\n\r\"\\'/ !~"`)
	readAs(t, plain("t", api.Text), text("\x00\x08\x0b\x0c\x0e\x1f\x7f"), `"\x00\x08\x0b\x0c\x0e\x1f\x7f"`)
	readAs(t, plain("t", api.Text), text("é\u0080\ufffd\U0010ffff"), "\"é\u0080\ufffd\U0010ffff\"")
	readAs(t, plain("b", api.Bytes), text(""), `x""`)
	readAs(t, plain("b", api.Bytes), text("\x00\x09\xaf\xff\"\\"), `x"0009afff225c"`)
	readAs(t, wide("x", api.Fixed, 1), text("\x0f"), `x"0f"`)
	readAs(t, with("l", api.List, maybe(i8)), list(), "[]")
	readAs(t, with("l", api.List, maybe(i8)), list(null), "[null]")
	readAs(t, with("l", api.List, maybe(i8)), list(num(-1), null, num(2)), "[-1,null,2]")
	readAs(t, with("l", api.List, with("l", api.List, i8)), list(list(), list(num(1)), list()), "[[],[1],[]]")
	readAs(t, wide("s", api.Span, 2, i8), list(num(1), num(2)), "[1,2]")
	readAs(t, with("s", api.Struct), list(), "{}")
	readAs(t, with("s", api.Struct, plain("a", api.Bool), maybe(plain("_B9", api.Text))), list(num(1), text("}")), `{a:true,_B9:"}"}`)
	readAs(t, with("l", api.List, with("s", api.Struct)), list(list(), list()), "[{},{}]")
	readAs(t, with("c", api.Choice, i8, with("C_0", api.Struct)), chosen(1, list()), "C_0({})")
	readAs(t, with("c", api.Choice, maybe(i8)), chosen(0, null), "i(null)")
	readAs(t, maybe(dict("d", plain("t", api.Text))), text("a"), `"a"`)
	readAs(t, maybe(dict("d", plain("t", api.Text))), null, "null")
	readAs(t, maybe(with("r", api.Runs, maybe(i8))), null, "null")
	readAs(t, with("r", api.Runs, i8), num(7), "7")
}

// P4.1: Float64s, at each edge of their form.
func TestFloatTexts(t *testing.T) {
	f := plain("f", api.Float64)
	for s, n := range map[string]uint64{
		"0p0": 0, "1p-1074": 1, "3p-1074": 3, "1p-1073": 2, "4503599627370495p-1074": 1<<52 - 1, "1p-1022": 1 << 52, "4503599627370497p-1074": 1<<52 + 1,
		"1p1023": 2046 << 52, "9007199254740991p971": 2047<<52 - 1, "inf": 2047 << 52, "nan0000000000001": 2047<<52 + 1, "nanfffffffffffff": 1<<63 - 1,
		"1p0": 1023 << 52, "1p1": 1024 << 52, "1p-1": 1022 << 52, "9007199254740991p0": (1023+52)<<52 | (1<<52 - 1), "1p53": (1023 + 53) << 52, "3p-1": 1023<<52 | 1<<51, "nan0000000000abc": 2047<<52 + 0xabc,
	} {
		readAs(t, f, num(int64(n)), s)
		readAs(t, f, num(int64(n|1<<63)), "-"+s)
	}
	for _, s := range []string{
		"2p0", "10p0", "1p1024", "1p-1075", "3p1023", "3p-1075", "9007199254740993p0", "9007199254740991p972", "18014398509481983p-1", "9007199254740992p0", "0p1", "0p-1", "1p-0", "1p00", "1p01", "01p0", "1p", "p0", "1", "1p0p0", "1p-", "1p--1", "-1p-1075",
		"1p99999", "1p-99999", "1p9223372036854775807", "1p-9223372036854775808", "1p99999999999999999999", "99999999999999999999p0", "18446744073709551617p0", "1e5", "15", "inf0", "infinity", "nan", "nan0", "nan0000000000000", "nan000000000001", "nan00000000000001", "nan00000000000g0", "nanfffffffffffffff", "nan10000000000000",
		"-", "--1p0", "-nan0000000000000", "--inf", "null", "true", "", strings.Repeat("-", 60000), strings.Repeat("1", 60000), "1p" + strings.Repeat("1", 60000),
	} {
		refused(t, f, s, api.ErrForm, 0)
	}
	refused(t, f, "1.5", api.ErrForm, 0)
	refused(t, f, "1p+1", api.ErrForm, 0)
	refused(t, f, "1p1 ", api.ErrForm, 3)
	refused(t, f, "1p1P", api.ErrForm, 3)
	refused(t, f, "NaN", api.ErrForm, 0)
	c := newChance(7)
	for range 100000 {
		n := c.number(api.Float64)
		s, e := Print(f, num(n))
		if e != api.OK || s != modelFloatText(math.Float64frombits(uint64(n))) {
			t.Fatalf("Print(%x) = %s, %d", n, s, e)
		}
		if v, e, at := Parse(f, s); e != api.OK || at != 0 || v.Num != n {
			t.Fatalf("Parse(%s) = %x, %d, %d, want %x", s, v.Num, e, at, n)
		}
	}
}

// P4.1: where a null is one, and where it is none.
func TestParseNull(t *testing.T) {
	i8 := maybe(plain("i", api.Int8))
	n := maybe(plain("n", api.Null))
	d := maybe(dict("d", with("c", api.Choice, plain("null", api.Int8), plain("nullA", api.Int8), plain("null_1", api.Int8), plain("null0x", api.Int8))))
	l := with("l", api.List, d)
	r := maybe(with("r", api.Runs, maybe(with("r", api.Runs, d))))
	for _, f := range []api.Field{i8, n, d, r, maybe(plain("t", api.Text)), maybe(plain("b", api.Bytes)), maybe(with("s", api.Struct)), maybe(with("l", api.List, i8)), maybe(plain("f", api.Float64))} {
		readAs(t, f, null, "null")
		for _, s := range []string{"", "nul", "nulla", "nullb", "null0", "-null", "Null", "null_", "nullB", "nullZ"} {
			refused(t, f, s, api.ErrForm, 0)
		}
		for _, s := range []string{"null)", "null ", "null[", "null`", "null{", "null@", "null\x00", "null\xff", "null,", "null\"", "null:"} {
			refused(t, f, s, api.ErrForm, 4)
		}
	}
	refused(t, i8, "null-", api.ErrForm, 0)
	refused(t, maybe(plain("t", api.Text)), "null-", api.ErrForm, 0)
	refused(t, i8, "null(", api.ErrForm, 0)
	refused(t, n, "null(", api.ErrForm, 0)
	refused(t, n, "0", api.ErrForm, 0)
	refused(t, maybe(plain("t", api.Text)), "null(", api.ErrForm, 0)
	for _, f := range []api.Field{d, r} {
		readAs(t, f, chosen(0, num(5)), "null(5)")
		readAs(t, f, chosen(1, num(5)), "nullA(5)")
		readAs(t, f, chosen(2, num(5)), "null_1(5)")
		readAs(t, f, chosen(3, num(5)), "null0x(5)")
		refused(t, f, "null-", api.ErrForm, 4)
		refused(t, f, "null(", api.ErrForm, 5)
		refused(t, f, "null()", api.ErrForm, 5)
		refused(t, f, "null(null)", api.ErrForm, 5)
		refused(t, f, "nullA", api.ErrForm, 5)
		refused(t, f, "nullA)", api.ErrForm, 5)
	}
	readAs(t, l, list(null, chosen(0, num(5)), chosen(1, num(1)), null), "[null,null(5),nullA(1),null]")
	refused(t, l, "[null,nullB(1)]", api.ErrForm, 6)
	for _, f := range []api.Field{plain("i", api.Int8), plain("t", api.Text), dict("d", plain("b", api.Bool)), with("r", api.Runs, plain("b", api.Bytes)), with("s", api.Struct), with("c", api.Choice, i8)} {
		refused(t, f, "null", api.ErrForm, 0)
	}
	refused(t, with("c", api.Choice, named("null", i8)), "null", api.ErrForm, 4)
}

// P4.1: what is wrong with numbers, and what behind them.
func TestParseNumbers(t *testing.T) {
	for _, k := range []int{api.Int8, api.Int64, api.Uint8, api.Uint64} {
		for _, s := range []string{"", "-", "--1", "-0", "00", "01", "-01", "1-", "1a", "0x1", "1e1", "p", "null", "true", "1p0", "+1", " 1", "\xff", "99999999999999999999999", "-99999999999999999999999", strings.Repeat("9", 60000)} {
			refused(t, plain("i", k), s, api.ErrForm, 0)
		}
		for _, s := range []string{"1 ", "1_0", "1A", "1.5", "1,", "1\x00", "1\xe9", "1("} {
			refused(t, plain("i", k), s, api.ErrForm, 1)
		}
	}
	for _, s := range []string{"", "1", "0", "tru", "truee", "True", "true1", "false-", "null", "t", "falsetrue"} {
		refused(t, plain("b", api.Bool), s, api.ErrForm, 0)
	}
	refused(t, plain("b", api.Bool), "true ", api.ErrForm, 4)
	refused(t, plain("b", api.Bool), "falseE", api.ErrForm, 5)
}

// P4.1: what is wrong with Texts.
func TestParseTexts(t *testing.T) {
	f := plain("t", api.Text)
	for s, at := range map[string]int{
		``: 0, `a`: 0, ` "a"`: 0, `'a'`: 0, `x"aa"`: 0, `"`: 1, `"a`: 2, `"a"b`: 3, `"a" `: 3, `"""`: 2, `"a""`: 3,
		`"\`: 1, `"a\`: 2, `"\x`: 1, `"\x0`: 1, `"\x"`: 1, `"\x0"`: 1, `"\x00`: 5, `"\a"`: 1, `"\0"`: 1, `"\'"`: 1, `"\u0041"`: 1, `"\X00"`: 1, `"\T"`: 1, `"\ "`: 1, `"\"`: 3, `"\\\"`: 5,
		`"\x41"`: 1, `"\x20"`: 1, `"\x22"`: 1, `"\x5c"`: 1, `"\x09"`: 1, `"\x0a"`: 1, `"\x0d"`: 1, `"\x80"`: 1, `"\xff"`: 1, `"\x7e"`: 1, `"\x7F"`: 1, `"\x1F"`: 1, `"\x0G"`: 1, `"\xg0"`: 1, `"\x+1"`: 1, `"\x 1"`: 1, `"\x_1"`: 1,
		"\"a\x00\"": 2, "\"\t\"": 1, "\"\n\"": 1, "\"\r\"": 1, "\"\x1f\"": 1, "\"\x7f\"": 1,
		"\"\x80\"": 1, "\"é\xc3\"": 3, "\"\xc3": 1, "\"a\xe2\x82\"": 2, "\"\xe2\x82\xac\x82\"": 4, "\"\xc0\x80\"": 1, "\"\xed\xa0\x80\"": 1, "\"\xf4\x90\x80\x80\"": 1, "\"\xf8\x88\x80\x80\x80\"": 1, "\"\xff\"": 1, "\xff": 0,
		`"\x00\x41"`: 5, `"\n\x0"`: 3,
	} {
		refused(t, f, s, api.ErrForm, at)
	}
	for c := range 256 {
		raw, escape := "\""+string([]byte{byte(c)})+"\"", `"\x`+strconv.FormatInt(int64(c)+256, 16)[1:]+`"`
		switch {
		case c == '"':
			refused(t, f, raw, api.ErrForm, 2)
		case c == '\\':
			refused(t, f, raw, api.ErrForm, 3)
		case c < 32 || c >= 127:
			refused(t, f, raw, api.ErrForm, 1)
		default:
			readAs(t, f, text(string([]byte{byte(c)})), raw)
		}
		if (c < 32 || c == 127) && c != 9 && c != 10 && c != 13 {
			readAs(t, f, text(string([]byte{byte(c)})), escape)
		} else {
			refused(t, f, escape, api.ErrForm, 1)
		}
	}
}

// P4.1: what is wrong with Bytes and Fixed ones.
func TestParseDigits(t *testing.T) {
	b, x2 := plain("b", api.Bytes), wide("x", api.Fixed, 2)
	for s, at := range map[string]int{
		``: 0, `x`: 0, `"`: 0, `"00"`: 0, `X"0000"`: 0, `x'0000'`: 0, `x "`: 0, `xx"`: 0, `x"`: 2, `x"0`: 3, `x"00`: 4, `x"0000`: 6, `x"0"`: 3, `x"000"`: 5, `x"0g"`: 3, `x"g0"`: 2, `x"A0"`: 2, `x"0F"`: 3, `x"00 00"`: 4, `x"0000"x`: 7, `x"0000""`: 7, `x"00-1"`: 4, "x\"00\x00\"": 4, "x\"0\xff\"": 3,
	} {
		refused(t, b, s, api.ErrForm, at)
		refused(t, x2, s, api.ErrForm, at)
	}
	for s, at := range map[string]int{`x""`: 0, `x"00"`: 0, `x"000000"`: 0, `x"00"x`: 0, `x"000000`: 8, `x"000000g"`: 8, `x"0000000"`: 9} {
		refused(t, x2, s, api.ErrForm, at)
	}
	l := with("l", api.List, x2)
	refused(t, l, `[x"0000",x"00"]`, api.ErrForm, 9)
	refused(t, l, `[x"0000",x"00`, api.ErrForm, 13)
	refused(t, l, `[x"0000",x`, api.ErrForm, 9)
}

// P4.1: what is wrong with values that hold others.
func TestParseParts(t *testing.T) {
	i8 := plain("i", api.Int8)
	l := with("l", api.List, i8)
	for s, at := range map[string]int{``: 0, `1`: 0, `{}`: 0, `[`: 1, `[1`: 2, `[1,`: 3, `[,`: 1, `[,]`: 1, `[1,]`: 3, `[1 ]`: 2, `[1}`: 2, `[1][`: 3, `[]]`: 2, `[ ]`: 1, `[1,2;3]`: 4, `[1,128]`: 3, `[null]`: 1, `[[]]`: 1} {
		refused(t, l, s, api.ErrForm, at)
	}
	refused(t, with("l", api.List, l), `[[1],]`, api.ErrForm, 5)
	refused(t, with("l", api.List, l), `[[1],[2]`, api.ErrForm, 8)
	refused(t, with("l", api.List, l), `[[1],[2`, api.ErrForm, 7)
	s2 := wide("s", api.Span, 2, i8)
	for s, at := range map[string]int{``: 0, `[`: 1, `[]`: 1, `[1]`: 2, `[1`: 2, `[1,`: 3, `[1,]`: 3, `[1,2`: 4, `[1,2,`: 4, `[1,2,3]`: 4, `[1,2)`: 4, `[1,2]]`: 5, `{1,2}`: 0, `[1;2]`: 2} {
		refused(t, s2, s, api.ErrForm, at)
	}
	ab := with("s", api.Struct, named("a", i8), named("bc", i8))
	for s, at := range map[string]int{``: 0, `[`: 0, `{`: 1, `{}`: 1, `{a`: 1, `{a:`: 3, `{a:}`: 3, `{a:1`: 4, `{a:1}`: 4, `{a:1,`: 5, `{a:1,}`: 5, `{a:1,b`: 5, `{a:1,bc`: 5, `{a:1,bc;1}`: 5, `{a:1,b:1}`: 5, `{a:1,bcd:1}`: 5, `{a:1,bc:`: 8, `{a:1,bc:1`: 9, `{a:1,bc:1,`: 9, `{a:1,bc:1]`: 9, `{a:1,bc:1}}`: 10, `{bc:1,a:1}`: 1, `{A:1,bc:1}`: 1, `{a :1,bc:1}`: 1, `{a:1, bc:1}`: 5, `{a:128,bc:1}`: 3} {
		refused(t, ab, s, api.ErrForm, at)
	}
	none := with("s", api.Struct)
	for s, at := range map[string]int{``: 0, `{`: 1, `{a:1}`: 1, `{ }`: 1, `{},`: 2, `[]`: 0} {
		refused(t, none, s, api.ErrForm, at)
	}
	c := with("c", api.Choice, named("a", i8), named("aB_9", plain("t", api.Text)))
	for s, at := range map[string]int{``: 0, `(1)`: 0, `a`: 1, `a(`: 2, `a()`: 2, `a(1`: 3, `a(1]`: 3, `a(1))`: 4, `a(1)a`: 4, `aB(1)`: 0, `aB_9(1)`: 5, `aB_9("x"`: 8, `ab(1)`: 0, `a-(1)`: 1, `a (1)`: 1, `b(1)`: 0, `A(1)`: 0, `aB_99("")`: 0, `a[1]`: 1, `a(128)`: 2, `é(1)`: 0} {
		refused(t, c, s, api.ErrForm, at)
	}
}

// P4.1: the item number MaxRows of a list, and the length of a text.
func TestTextLimits(t *testing.T) {
	l := with("l", api.List, plain("b", api.Bool))
	ll := with("l", api.List, l)
	open := "[" + strings.Repeat("true,", 4095) + "true"
	readAs(t, l, list(valuesOf(4096, num(1))...), open+"]")
	for _, s := range []string{"", "]", "true]", "x", ",", "\xff", "null"} {
		refused(t, l, open+","+s, api.ErrRows, len(open)+1)
		refused(t, ll, "[[],"+open+","+s, api.ErrRows, len(open)+5)
	}
	refused(t, l, open, api.ErrForm, len(open))
	refused(t, l, open+";", api.ErrForm, len(open))
	refused(t, l, open+"]]", api.ErrForm, len(open)+1)
	refused(t, l, open[:len(open)-1]+",x", api.ErrForm, len(open)-4)

	tx, b := plain("t", api.Text), plain("b", api.Bytes)
	long := strings.Repeat("a", 65534)
	readAs(t, tx, text(long), `"`+long+`"`)
	refused(t, tx, `"`+long+`a"`, api.ErrBytes, 0)
	refused(t, tx, `"`+long+`aa`, api.ErrBytes, 0)
	refused(t, tx, `"`+long+`a`, api.ErrForm, 65536)
	refused(t, plain("i", api.Int8), strings.Repeat("x", 65536), api.ErrForm, 0)
	refused(t, plain("i", api.Int8), strings.Repeat("x", 65537), api.ErrBytes, 0)
	for _, x := range []struct {
		f    api.Field
		v    api.Value
		want api.Errno
	}{
		{tx, text(long + "a"), api.ErrBytes}, {tx, text(strings.Repeat("\x00", 16384)), api.ErrBytes}, {tx, text(strings.Repeat("\x00", 16383) + "aa"), api.OK}, {tx, text(strings.Repeat("\x00", 16383) + "\"a"), api.ErrBytes},
		{b, text(long[:32766]), api.OK}, {b, text(long[:32767]), api.ErrBytes}, {tx, text(long + "a\xff"), api.ErrValue}, {tx, text(strings.Repeat("a", api.MaxWeight-16)), api.ErrBytes}, {tx, text(strings.Repeat("a", api.MaxWeight)), api.ErrValue},
		{with("l", api.List, tx), list(text(long[:65531]), text("")), api.ErrBytes}, {with("l", api.List, tx), list(text(long[:65529]), text("")), api.OK}, {with("l", api.List, tx), list(text(long[:65530]), text("")), api.ErrBytes},
		{ll, list(valuesOf(4, list(valuesOf(4096, num(0))...))...), api.ErrBytes}, {with("s", api.Struct, tx), list(text(long[:65530])), api.OK}, {with("s", api.Struct, tx), list(text(long[:65531])), api.ErrBytes},
		{with("c", api.Choice, tx), chosen(0, text(long[:65531])), api.OK}, {with("c", api.Choice, tx), chosen(0, text(long[:65532])), api.ErrBytes},
		{ll, list(valuesOf(60, list(valuesOf(4096, num(0))...))...), api.ErrBytes},
	} {
		s, e := Print(x.f, x.v)
		if e != x.want || e != api.OK && s != "" || e == api.OK && s != modelText(x.f, x.v) {
			t.Errorf("Print of %d bytes: %d, want %d", len(modelText(x.f, x.v)), e, x.want)
		}
	}
}

func valuesOf(n int, v api.Value) []api.Value {
	l := make([]api.Value, n)
	for i := range l {
		l[i] = v
	}
	return l
}

// P4.1: Print of what doesn't fit.
func TestPrintWrong(t *testing.T) {
	c := newChance(8)
	told := 0
	for range 10000 {
		f := c.field()
		v := c.hurt(c.value(f))
		s, e := Print(f, v)
		if !modelFits(f, v) {
			told++
			if s != "" || e != api.ErrValue {
				t.Fatalf("Print(%v, %v) = %s, %d", f, v, s, e)
			}
		} else if s != modelText(f, v) || e != api.OK {
			t.Fatalf("Print(%v, %v) = %s, %d", f, v, s, e)
		}
	}
	if told < 1000 {
		t.Errorf("%d values did not fit", told)
	}
}

// P4.1, P4.3: texts there and back, whole and spoilt, against the models.
func TestTextsModel(t *testing.T) {
	c := newChance(9)
	told := map[api.Errno]int{}
	for range 40000 {
		f := c.field()
		v := c.value(f)
		s, e := Print(f, v)
		if e != api.OK || s != modelText(f, v) {
			t.Fatalf("Print(%v, %v) = %s, %d", f, v, s, e)
		}
		if got, e, at := Parse(f, s); e != api.OK || at != 0 || !sameInAll(got, v) {
			t.Fatalf("Parse(%v, %s) = %v, %d, %d", f, s, got, e, at)
		}
		for range 5 {
			bad := c.spoilt(s)
			wantE, wantAt := modelParse(f, bad)
			got, e, at := Parse(f, bad)
			told[e]++
			if e != wantE || at != wantAt {
				t.Fatalf("Parse(%v, %q) = %d, %d, want %d, %d", f, bad, e, at, wantE, wantAt)
			}
			if e != api.OK {
				if !isNone(got) {
					t.Fatalf("Parse(%v, %q) = %v beside %d", f, bad, got, e)
				}
				continue
			}
			if again, e := Print(f, got); again != bad || e != api.OK || !modelFits(f, got) {
				t.Fatalf("Print(%v, %v) = %s, %d, want %s", f, got, again, e, bad)
			}
		}
	}
	if told[api.OK] < 10000 || told[api.ErrForm] < 10000 {
		t.Errorf("told %v", told)
	}
}

// P4.1: each beginning of a text, and each with one byte another one.
func TestParseBeginnings(t *testing.T) {
	f := maybe(with("s", api.Struct, with("l", api.List, maybe(plain("t", api.Text))), wide("x", api.Fixed, 2), wide("p", api.Span, 2, plain("b", api.Bool)),
		maybe(dict("d", with("c", api.Choice, plain("null", api.Float64), plain("nullA", api.Uint64)))), plain("i", api.Int16)))
	whole := list(list(text("a\n\x01é"), null), text("\x0a\xf0"), list(num(1), num(0)), chosen(0, float(-0.75)), num(-120))
	s := modelText(f, whole)
	readAs(t, f, whole, s)
	for i := range len(s) {
		e, at := modelParse(f, s[:i])
		refused(t, f, s[:i], e, at)
		for c := range 256 {
			x := s[:i] + string([]byte{byte(c)}) + s[i+1:]
			if e, at := modelParse(f, x); e != api.OK {
				refused(t, f, x, e, at)
			} else if v, got, _ := Parse(f, x); got != api.OK || modelText(f, v) != x {
				t.Errorf("Parse(%q) = %v, %d", x, v, got)
			}
		}
	}
}
