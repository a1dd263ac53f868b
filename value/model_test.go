package value

import (
	"fmt"
	"math"
	"math/big"
	"math/rand"
	"regexp"
	"strconv"
	"strings"

	"colonnade/api"
)

// plain is a field without children.
func plain(name string, k int) api.Field { return api.Field{Name: name, Type: api.Type{Kind: k}} }

// with is a field of a kind with these children.
func with(name string, k int, l ...api.Field) api.Field {
	return api.Field{Name: name, Type: api.Type{Kind: k, Fields: l}}
}

// wide is a field with a Width.
func wide(name string, k, width int, l ...api.Field) api.Field {
	f := with(name, k, l...)
	f.Type.Width = width
	return f
}

// dict is a field of kind Dict.
func dict(name string, child api.Field) api.Field {
	f := with(name, api.Dict, child)
	f.Type.Index = api.Int8
	return f
}

// maybe is the same field, Nullable.
func maybe(f api.Field) api.Field {
	f.Nullable = true
	return f
}

var null = api.Value{Null: true}

func num(n int64) api.Value { return api.Value{Num: n} }

func text(s string) api.Value { return api.Value{Text: s} }

func list(l ...api.Value) api.Value { return api.Value{List: l} }

func chosen(n int64, v api.Value) api.Value { return api.Value{Num: n, List: []api.Value{v}} }

func float(x float64) api.Value { return num(int64(math.Float64bits(x))) }

// latin is a text with a letter a byte, by which regular expressions go through bytes.
func latin(s string) string {
	l := make([]rune, len(s))
	for i := range len(s) {
		l[i] = rune(s[i])
	}
	return string(l)
}

const (
	modelWide   = `[\xc2-\xdf]T|\xe0[\xa0-\xbf]T|[\xe1-\xec\xee\xef]TT|\xed[\x80-\x9f]T|\xf0[\x90-\xbf]TT|[\xf1-\xf3]TTT|\xf4[\x80-\x8f]TT`
	modelPlain  = `[\x20\x21\x23-\x5b\x5d-\x7e]`
	modelEscape = `\\[tnr"\\]|\\x(0[0-8bcef]|1[0-9a-f]|7f)`
)

func compiled(s string) *regexp.Regexp {
	return regexp.MustCompile(strings.ReplaceAll(s, "T", `[\x80-\xbf]`))
}

var (
	modelUTF     = compiled(`\A([\x00-\x7f]|` + modelWide + `)*\z`)
	modelLetters = compiled(`\A"(` + modelPlain + `|` + modelEscape + `|` + modelWide + `)*`)
	modelDigits  = compiled(`\Ax"[0-9a-f]*`)
	modelRow     = compiled(`\A[0-9a-z-]*`)
	modelName    = compiled(`\A[a-zA-Z0-9_]*`)
	modelNull    = compiled(`\Anull(\z|[^0-9a-z(_A-Z-])`)
	modelWhole   = compiled(`\A(0|-?[1-9][0-9]*)\z`)
	modelFloat   = compiled(`\A-?(inf|nan[0-9a-f]{13}|0p0|(([1-9][0-9]*)?[13579])p(0|-?[1-9][0-9]*))\z`)
)

// modelBits tells how many bits a whole number of a kind has; 0: it is none.
func modelBits(k int) int {
	return map[int]int{2: 1, 3: 8, 4: 16, 5: 32, 6: 64, 7: 8, 8: 16, 9: 32, 10: 64}[k]
}

// isSigned tells whether the numbers of a kind have a sign.
func isSigned(k int) bool { return k >= 3 && k <= 6 }

// modelRange tells whether a number is one of a kind.
func modelRange(k int, n *big.Int) bool {
	least, most := big.NewInt(0), new(big.Int).Lsh(big.NewInt(1), uint(modelBits(k)))
	if isSigned(k) {
		most.Rsh(most, 1)
		least.Neg(most)
	}
	return n.Cmp(least) >= 0 && n.Cmp(most) < 0
}

// modelNumber is the number that a value of a whole number's kind means.
func modelNumber(k int, n int64) *big.Int {
	if k == api.Uint64 {
		return new(big.Int).SetUint64(uint64(n))
	}
	return big.NewInt(n)
}

// modelLetsNull tells whether a null fits a field.
func modelLetsNull(f api.Field) bool {
	switch f.Type.Kind {
	case api.Choice:
		return false
	case api.Runs:
		return modelLetsNull(f.Type.Fields[0])
	}
	return f.Nullable
}

// modelWeight is a value's weight.
func modelWeight(v api.Value) int {
	w := 16 + len(v.Text)
	for _, x := range v.List {
		w += modelWeight(x)
	}
	return w
}

// modelFits is the document's words on what fits.
func modelFits(f api.Field, v api.Value) bool { return modelForm(f, v) && modelWeight(v) <= 1<<22 }

// modelForm tells whether a value fits, whatever it weighs.
func modelForm(f api.Field, v api.Value) bool {
	if v.Null {
		return modelLetsNull(f) && v.Num == 0 && v.Text == "" && len(v.List) == 0
	}
	t := f.Type
	if t.Kind == api.Dict || t.Kind == api.Runs {
		return modelForm(t.Fields[0], v)
	}
	isText := t.Kind >= api.Text && t.Kind <= api.Fixed
	isList := t.Kind >= api.List && t.Kind <= api.Choice
	isNum := t.Kind >= api.Bool && t.Kind <= api.Float64 || t.Kind == api.Choice
	if !isText && v.Text != "" || !isList && len(v.List) > 0 || !isNum && v.Num != 0 || t.Kind == api.Null {
		return false
	}
	if modelBits(t.Kind) > 0 && !modelRange(t.Kind, modelNumber(t.Kind, v.Num)) {
		return false
	}
	if t.Kind == api.Text && !modelUTF.MatchString(latin(v.Text)) || t.Kind == api.Fixed && len(v.Text) != t.Width {
		return false
	}
	if isList {
		return modelListFits(t, v)
	}
	return true
}

func modelListFits(t api.Type, v api.Value) bool {
	n := len(v.List)
	if t.Kind == api.Choice && (v.Num < 0 || v.Num >= int64(len(t.Fields)) || n != 1) || n > 4096 {
		return false
	}
	if t.Kind == api.Span && n != t.Width || t.Kind == api.Struct && n != len(t.Fields) {
		return false
	}
	for i, x := range v.List {
		child := 0
		switch t.Kind {
		case api.Struct:
			child = i
		case api.Choice:
			child = int(v.Num)
		}
		if !modelForm(t.Fields[child], x) {
			return false
		}
	}
	return true
}

// modelKey is bytes of which the lesser ones stand ahead just if the value does.
func modelKey(f api.Field, v api.Value) string {
	if v.Null {
		return "\x00"
	}
	t := f.Type
	key := "\x01"
	switch t.Kind {
	case api.Dict, api.Runs:
		return modelKey(t.Fields[0], v)
	case api.Text, api.Bytes, api.Fixed:
		for i := range len(v.Text) {
			key += "\x01" + v.Text[i:i+1]
		}
		return key + "\x00"
	case api.Choice:
		return key + string([]byte{byte(v.Num)}) + modelKey(t.Fields[v.Num], v.List[0])
	case api.Struct:
		for i, x := range v.List {
			key += modelKey(t.Fields[i], x)
		}
		return key
	case api.List, api.Span:
		for _, x := range v.List {
			key += "\x01" + modelKey(t.Fields[0], x)
		}
		return key + "\x00"
	case api.Float64:
		sign, rest := uint64(v.Num)>>63, uint64(v.Num)<<1>>1
		if sign == 1 {
			rest = 1<<63 - 1 - rest
		}
		return key + fmt.Sprintf("%d%019d", 1-sign, rest)
	}
	n := modelNumber(t.Kind, v.Num)
	return key + fmt.Sprintf("%020s", n.Add(n, big.NewInt(1<<62)).Add(n, big.NewInt(1<<62)))
}

// modelText is a value's text.
func modelText(f api.Field, v api.Value) string {
	if v.Null {
		return "null"
	}
	t := f.Type
	var l []string
	switch t.Kind {
	case api.Dict, api.Runs:
		return modelText(t.Fields[0], v)
	case api.Bool:
		return fmt.Sprint(v.Num == 1)
	case api.Float64:
		return modelFloatText(math.Float64frombits(uint64(v.Num)))
	case api.Text:
		return modelQuoted(v.Text)
	case api.Bytes, api.Fixed:
		return fmt.Sprintf("x\"%x\"", v.Text)
	case api.List, api.Span:
		for _, x := range v.List {
			l = append(l, modelText(t.Fields[0], x))
		}
		return "[" + strings.Join(l, ",") + "]"
	case api.Struct:
		for i, x := range v.List {
			l = append(l, t.Fields[i].Name+":"+modelText(t.Fields[i], x))
		}
		return "{" + strings.Join(l, ",") + "}"
	case api.Choice:
		return t.Fields[v.Num].Name + "(" + modelText(t.Fields[v.Num], v.List[0]) + ")"
	}
	return modelNumber(t.Kind, v.Num).String()
}

// modelQuoted is the text of a Text, letter by letter.
func modelQuoted(s string) string {
	var out strings.Builder
	for _, c := range s {
		switch {
		case c == '\\' || c == '"':
			out.WriteString(`\` + string(c))
		case c == '\t' || c == '\n' || c == '\r':
			out.WriteString(strings.Trim(strconv.Quote(string(c)), `"`))
		case c < 32 || c == 127:
			fmt.Fprintf(&out, `\x%02x`, c)
		default:
			out.WriteRune(c)
		}
	}
	return `"` + out.String() + `"`
}

// modelFloatText is the text of a floating-point number by halving.
func modelFloatText(x float64) string {
	sign := ""
	if math.Signbit(x) {
		sign = "-"
	}
	switch {
	case math.IsInf(x, 0):
		return sign + "inf"
	case math.IsNaN(x):
		return sign + fmt.Sprintf("nan%013x", math.Float64bits(x)&0xfffffffffffff)
	case x == 0:
		return sign + "0p0"
	}
	var m int64
	var p int
	if _, err := fmt.Sscanf(strconv.FormatFloat(math.Abs(x), 'b', -1, 64), "%dp%d", &m, &p); err != nil {
		panic(err)
	}
	for m%2 == 0 {
		m, p = m/2, p+1
	}
	return fmt.Sprintf("%s%dp%d", sign, m, p)
}

// modelIsNumber tells whether a row is the text of a Bool or a number that fits.
func modelIsNumber(k int, row string) bool {
	if k == api.Bool {
		return row == "true" || row == "false"
	}
	if k != api.Float64 {
		n, ok := new(big.Int).SetString(row, 10)
		return ok && modelWhole.MatchString(row) && modelRange(k, n)
	}
	parts := modelFloat.FindStringSubmatch(row)
	if parts == nil || strings.HasSuffix(row, "nan0000000000000") {
		return false
	}
	if parts[2] == "" {
		return true
	}
	m, _ := new(big.Int).SetString(parts[2], 10)
	p, err := strconv.Atoi(parts[4])
	return err == nil && m.BitLen() <= 53 && p >= -1074 && p <= 1024-m.BitLen()
}

// due is what is still to come in a text: a value of a field, a piece, or the item of a number of a list of that field.
type due struct {
	what  byte // v, p, i, and a: behind that many items
	field api.Field
	piece string
	items int
}

func value(f api.Field) due { return due{what: 'v', field: f} }

func piece(s string) due { return due{what: 'p', piece: s} }

// modelParse goes through a text with a stack of what is still to come: the error and the place, where it is no value's.
func modelParse(f api.Field, text string) (api.Errno, int) {
	if len(text) > 65536 {
		return 4, 0
	}
	stack := []due{value(f)}
	at := 0
	for len(stack) > 0 {
		d := stack[0]
		long, more, e := modelNext(d, text[at:])
		at += long
		if e != 0 {
			return e, at
		}
		stack = append(more, stack[1:]...)
	}
	if at < len(text) {
		return 8, at
	}
	return 0, 0
}

// modelNext is how far a text is read for what is due first, what then is due in its stead, and the error there.
func modelNext(d due, rest string) (int, []due, api.Errno) {
	switch {
	case d.what == 'v':
		return modelValue(d.field, rest)
	case d.what == 'p':
		if !strings.HasPrefix(rest, d.piece) {
			return 0, nil, 8
		}
		return len(d.piece), nil, 0
	case d.what == 'i' && d.items == 4096:
		return 0, nil, 3
	case d.what == 'i':
		return 0, []due{value(d.field), {what: 'a', field: d.field, items: d.items + 1}}, 0
	case strings.HasPrefix(rest, "]"):
		return 1, nil, 0
	case strings.HasPrefix(rest, ","):
		return 1, []due{{what: 'i', field: d.field, items: d.items}}, 0
	}
	return 0, nil, 8
}

func modelValue(f api.Field, rest string) (int, []due, api.Errno) {
	t := f.Type
	if modelLetsNull(f) && modelNull.MatchString(latin(rest[:min(5, len(rest))])) {
		return 4, nil, 0
	}
	switch {
	case t.Kind == api.Null:
		return 0, nil, 8
	case t.Kind <= api.Float64:
		row := modelRow.FindString(rest)
		if !modelIsNumber(t.Kind, row) {
			return 0, nil, 8
		}
		return len(row), nil, 0
	case t.Kind == api.Text:
		return modelQuote(modelLetters, rest, -1)
	case t.Kind == api.Bytes:
		return modelQuote(modelDigits, rest, -1)
	case t.Kind == api.Fixed:
		return modelQuote(modelDigits, rest, t.Width)
	case t.Kind == api.List && strings.HasPrefix(rest, "[]"):
		return 2, nil, 0
	}
	return 0, modelParts(t, rest), 0
}

// modelQuote goes through a quoted text up to the first letter or digit that is none.
func modelQuote(letters *regexp.Regexp, rest string, width int) (int, []due, api.Errno) {
	n := len([]rune(letters.FindString(latin(rest))))
	whole := strings.HasPrefix(rest[n:], `"`) && (letters == modelLetters || n%2 == 0)
	switch {
	case n == 0:
		return 0, nil, 8
	case !whole:
		return n, nil, 8
	case width >= 0 && n != 2+2*width:
		return 0, nil, 8
	}
	return n + 1, nil, 0
}

// modelParts is what stands in a value that holds others.
func modelParts(t api.Type, rest string) []due {
	var l []due
	switch t.Kind {
	case api.List:
		return []due{piece("["), {what: 'i', field: t.Fields[0]}}
	case api.Span:
		for range t.Width {
			l = append(l, piece(","), value(t.Fields[0]))
		}
		l[0] = piece("[")
		return append(l, piece("]"))
	case api.Struct:
		for _, c := range t.Fields {
			l = append(l, piece(","), piece(c.Name+":"), value(c))
		}
		if len(l) > 0 {
			l = l[1:]
		}
		return append(append([]due{piece("{")}, l...), piece("}"))
	case api.Choice:
		name := modelName.FindString(rest)
		for _, c := range t.Fields {
			if c.Name == name {
				return []due{piece(name), piece("("), value(c), piece(")")}
			}
		}
		return []due{piece("no child's name")}
	}
	return []due{value(t.Fields[0])}
}

// chance makes fields, values and texts, always the same ones.
type chance struct {
	*rand.Rand
	ids int // dictionaries given out
}

func newChance(seed int64) *chance { return &chance{Rand: rand.New(rand.NewSource(seed))} }

// field makes a field that may be.
func (c *chance) field() api.Field {
	c.ids = 0
	return c.within("f", 3, false)
}

// within makes a field that may be, of at most so many levels below it.
func (c *chance) within(name string, depth int, inDict bool) api.Field {
	k := 1 + c.Intn(20)
	if depth == 0 {
		k = 1 + c.Intn(14)
	}
	if (k == api.Dict || k == api.Runs) && inDict || k == api.Dict && c.ids == api.MaxDicts {
		k = api.Struct
	}
	f := plain(name, k)
	n := 0
	switch k {
	case api.Fixed:
		f.Type.Width = 1 + c.Intn(4)
	case api.Span:
		f.Type.Width = 1 + c.Intn(3)
		n = 1
	case api.List, api.Runs:
		n = 1
	case api.Struct:
		n = c.Intn(4)
	case api.Choice:
		n = 1 + c.Intn(4)
	case api.Dict:
		f.Type.ID, f.Type.Index = c.ids, 3+c.Intn(8)
		c.ids++
		n = 1
	}
	names := c.Perm(5)
	for i := range n {
		name := []string{"a", "null", "nullA", "null_1", "A9"}[names[i]]
		f.Type.Fields = append(f.Type.Fields, c.within(name, depth-1, inDict || k == api.Dict))
	}
	return c.nulls(f)
}

// nulls makes a field Nullable, or not, as it may be.
func (c *chance) nulls(f api.Field) api.Field {
	f.Nullable = c.Intn(2) == 0
	switch f.Type.Kind {
	case api.Null:
		f.Nullable = true
	case api.Choice:
		f.Nullable = false
	case api.Runs:
		f.Nullable = f.Type.Fields[0].Nullable
	case api.Dict:
		child := &f.Type.Fields[0]
		child.Nullable = false
		if child.Type.Kind == api.Null {
			child.Type.Kind = api.Bool
		}
	}
	return f
}

// value makes a value that fits.
func (c *chance) value(f api.Field) api.Value {
	if modelLetsNull(f) && c.Intn(3) == 0 || f.Type.Kind == api.Null {
		return null
	}
	t := f.Type
	v := api.Value{}
	switch t.Kind {
	case api.Dict, api.Runs:
		return c.value(t.Fields[0])
	case api.Text:
		v.Text = c.letters()
	case api.Bytes:
		v.Text = c.bytes(c.Intn(5))
	case api.Fixed:
		v.Text = c.bytes(t.Width)
	case api.List:
		v.List = c.values(c.Intn(4), t.Fields[0])
	case api.Span:
		v.List = c.values(t.Width, t.Fields[0])
	case api.Struct:
		for _, child := range t.Fields {
			v.List = append(v.List, c.value(child))
		}
	case api.Choice:
		v.Num = int64(c.Intn(len(t.Fields)))
		v.List = c.values(1, t.Fields[v.Num])
	default:
		v.Num = c.number(t.Kind)
	}
	return v
}

func (c *chance) values(n int, f api.Field) []api.Value {
	l := []api.Value{}
	for range n {
		l = append(l, c.value(f))
	}
	return l
}

// number makes a number of a kind, often one at an edge.
func (c *chance) number(k int) int64 {
	if k == api.Float64 {
		sign := c.Int63n(2) << 63
		if c.Intn(3) == 0 {
			return sign | []int64{0, 1, 1<<52 - 1, 1 << 52, 1<<52 + 1, 1023 << 52, 1075 << 52, 2046 << 52, 2047<<52 - 1, 2047 << 52, 2047<<52 + 1, 2047<<52 + 1<<51, 1<<63 - 1}[c.Intn(13)]
		}
		return sign | c.Int63()>>c.Intn(40)<<c.Intn(20)&(1<<63-1)
	}
	b := modelBits(k)
	n := int64(c.Uint64() >> (64 - b))
	switch c.Intn(3) {
	case 0:
		n = []int64{0, 1, -1, 1 << (b - 1), 1<<(b-1) - 1}[c.Intn(5)]
	case 1:
		n = int64(c.Intn(4))
	}
	if isSigned(k) {
		return n << (64 - b) >> (64 - b)
	}
	return int64(uint64(n) << (64 - b) >> (64 - b))
}

// letters makes right UTF-8.
func (c *chance) letters() string {
	s := ""
	for range c.Intn(5) {
		s += []string{"a", "n", "\x00", "\t", "\n", "\r", "\x0b", "\x1f", " ", "!", "\"", "\\", "x", "]", "~", "\x7f", "\u0080", "\u07ff", "\u0800", "\ud7ff", "\ue000", "\ufffd", "\uffff", "\U00010000", "\U0010ffff"}[c.Intn(25)]
	}
	return s
}

func (c *chance) bytes(n int) string {
	b := make([]byte, n)
	for i := range b {
		b[i] = []byte{0, 1, 'a', 0x7f, 0x80, 0xff, byte(c.Intn(256))}[c.Intn(7)]
	}
	return string(b)
}

// copied is the same value in memory of its own.
func copied(v api.Value) api.Value {
	l := make([]api.Value, len(v.List))
	for i, x := range v.List {
		l[i] = copied(x)
	}
	v.List = l
	return v
}

// hurt is a value of which one thing is another one.
func (c *chance) hurt(v api.Value) api.Value {
	v = copied(v)
	if n := len(v.List); n > 0 && c.Intn(4) > 0 {
		i := c.Intn(n)
		v.List[i] = c.hurt(v.List[i])
		return v
	}
	switch c.Intn(8) {
	case 0:
		v.Null = !v.Null
	case 1:
		v.Num += []int64{1, -1, 2, 128, -129, 256, 1 << 15, 1 << 16, 1 << 31, 1 << 32, -1 << 63}[c.Intn(11)]
	case 2:
		v.Text += []string{"\x00", "a", "\x80", "\xc1\x80", "\xc3", "\xed\xa0\x80", "\xe0\x9f\xbf", "\xf0\x8f\xbf\xbf", "\xf4\x90\x80\x80", "\xf5\x80\x80\x80"}[c.Intn(10)]
	case 3:
		v.Text = v.Text[:len(v.Text)/2]
	case 4:
		v.List = append(v.List, []api.Value{{}, null, text("a"), list()}[c.Intn(4)])
	case 5:
		v.List = v.List[:len(v.List)/2]
	case 6:
		v = null
	case 7:
		v = api.Value{}
	}
	return v
}

// spoilt is a text of which a few bytes are others.
func (c *chance) spoilt(s string) string {
	for range 1 + c.Intn(2) {
		i := c.Intn(len(s) + 1)
		k := min(i+c.Intn(3), len(s))
		put := ""
		if c.Intn(3) > 0 {
			put = []string{"null", "x\"", "\\", "\\x", "\\x0", "\\x41", "\\x09", "\\x7f", "\\n", "\"", "[", "]", "{", "}", "(", ")", ",", ":", "-", "0", "1", "p", "a", "f", "g", "A", "_", "inf", "nan", "true", "\x00", "\x1f", "\x7f", "\x80", "\xc3", "\xe2\x82", "\xed\xa0\x80", "é", "a:", "null(", " "}[c.Intn(41)]
		}
		switch s = s[:i] + put + s[k:]; c.Intn(8) {
		case 0:
			s = s[:c.Intn(len(s)+1)]
		case 1:
			s += s[c.Intn(len(s)+1):]
		}
	}
	return s
}
