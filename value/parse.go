package value

import (
	"slices"
	"strconv"
	"strings"
	"unicode/utf8"

	"colonnade/api"
)

// Parse tells the value of a text; where it is none, the place.
func Parse(f api.Field, text string) (api.Value, api.Errno, int) {
	if !mayBe(f) {
		return api.Value{}, api.ErrType, 0
	}
	if len(text) > api.MaxText {
		return api.Value{}, api.ErrBytes, 0
	}
	r := &reader{text: text}
	v, ok := r.value(f)
	if ok && r.at < len(text) {
		ok = r.wrong()
	}
	if !ok {
		return api.Value{}, r.err, r.at
	}
	return v, api.OK, 0
}

// reader is a text, and how far it is read. What it can't read it answers with false; then it stands at the fault's place.
type reader struct {
	text string
	at   int
	err  api.Errno // of what it couldn't read
}

// wrong says that what stands at the reader's place may not stand there.
func (r *reader) wrong() bool {
	r.err = api.ErrForm
	return false
}

// value reads a value of a field.
func (r *reader) value(f api.Field) (v api.Value, ok bool) {
	t := f.Type
	// A Runs is Nullable just if its child is.
	if f.Nullable && r.isNull() {
		r.at += len("null")
		return api.Value{Null: true}, true
	}
	switch t.Kind {
	case api.Text:
		v.Text, ok = r.letters()
	case api.Bytes:
		v.Text, ok = r.digits()
	case api.Fixed:
		v.Text, ok = r.fixed(t.Width)
	case api.List:
		v.List, ok = r.items(t.Fields[0])
	case api.Span:
		v.List, ok = r.span(t.Width, t.Fields[0])
	case api.Struct:
		v.List, ok = r.parts(t.Fields)
	case api.Choice:
		return r.choice(t.Fields)
	case api.Dict, api.Runs:
		return r.value(t.Fields[0])
	default:
		v.Num, ok = r.number(t.Kind)
	}
	return v, ok
}

// row tells the longest piece from the reader's place on of bytes that a function lets.
func (r *reader) row(lets func(c byte) bool) string {
	end := r.at
	for end < len(r.text) && lets(r.text[end]) {
		end++
	}
	return r.text[r.at:end]
}

// isRowByte tells whether a byte may stand in a null's or a number's row.
func isRowByte(c byte) bool { return '0' <= c && c <= '9' || 'a' <= c && c <= 'z' || c == '-' }

// isNameByte tells whether a byte may stand in a name.
func isNameByte(c byte) bool { return isRowByte(c) && c != '-' || isOfNameAlone(c) }

// isOfNameAlone tells whether a byte may stand in a name, but in no row.
func isOfNameAlone(c byte) bool { return 'A' <= c && c <= 'Z' || c == '_' }

// isNull tells whether a null stands at the reader's place, and not a choice whose name begins so.
func (r *reader) isNull() bool {
	word := r.row(isRowByte)
	end := r.at + len(word)
	return word == "null" && (end == len(r.text) || r.text[end] != '(' && !isOfNameAlone(r.text[end]))
}

// number reads a Bool or a number; of kind Null there is none.
func (r *reader) number(k int) (int64, bool) {
	row := r.row(isRowByte)
	n, ok := numberOf(k, row)
	if !ok {
		return 0, r.wrong()
	}
	r.at += len(row)
	return n, true
}

// takes reads a piece of text, if it stands there whole.
func (r *reader) takes(piece string) bool {
	if !strings.HasPrefix(r.text[r.at:], piece) {
		return false
	}
	r.at += len(piece)
	return true
}

// must reads a piece of text that must stand there whole.
func (r *reader) must(piece string) bool { return r.takes(piece) || r.wrong() }

// letters reads a Text.
func (r *reader) letters() (string, bool) {
	if !r.must(`"`) {
		return "", false
	}
	var b []byte
	for !r.takes(`"`) {
		c, long := letter(r.text[r.at:])
		if long == 0 {
			return "", r.wrong()
		}
		b = append(b, c...)
		r.at += long
	}
	return string(b), true
}

// letter tells the bytes of the letter that a text begins with, and how long it is as it is written there; 0: it begins with none.
func letter(text string) (letter string, long int) {
	if text == "" {
		return "", 0
	}
	if text[0] == '\\' {
		return escape(text)
	}
	c, long := utf8.DecodeRuneInString(text)
	if c == utf8.RuneError && long == 1 || !isPlain(text[0]) {
		return "", 0
	}
	return text[:long], long
}

// escape tells the byte for which an escape stands with which a text begins, and how long that is; 0: it is none. It is one just if the byte is written so.
func escape(text string) (letter string, long int) {
	c := meant(text)
	if isPlain(c) || !strings.HasPrefix(text, escaped(c)) {
		return "", 0
	}
	return string([]byte{c}), len(escaped(c))
}

// meant tells the byte for which an escape stands with which a text begins; of what is none any byte.
func meant(text string) byte {
	if len(text) < 2 {
		return 0
	}
	switch text[1] {
	case 't':
		return '\t'
	case 'n':
		return '\n'
	case 'r':
		return '\r'
	case 'x':
		n, _ := strconv.ParseUint(text[2:min(4, len(text))], 16, 8)
		return byte(n)
	}
	return text[1]
}

// digits reads Bytes.
func (r *reader) digits() (string, bool) {
	if !r.must(`x"`) {
		return "", false
	}
	var b []byte
	for !r.takes(`"`) {
		high, ok := r.digit()
		if !ok {
			return "", false
		}
		low, ok := r.digit()
		if !ok {
			return "", false
		}
		b = append(b, high<<4|low)
	}
	return string(b), true
}

// digit reads a digit of base sixteen.
func (r *reader) digit() (byte, bool) {
	if r.at == len(r.text) {
		return 0, r.wrong()
	}
	n := strings.IndexByte(hex, r.text[r.at])
	if n < 0 {
		return 0, r.wrong()
	}
	r.at++
	return byte(n), true
}

// fixed reads a Fixed; one of another length is wrong from its beginning on.
func (r *reader) fixed(width int) (string, bool) {
	from := r.at
	text, ok := r.digits()
	if ok && len(text) != width {
		r.at = from
		return "", r.wrong()
	}
	return text, ok
}

// items reads a list.
func (r *reader) items(f api.Field) ([]api.Value, bool) {
	if !r.must("[") {
		return nil, false
	}
	var l []api.Value
	if r.takes("]") {
		return l, true
	}
	for {
		if len(l) == api.MaxRows {
			r.err = api.ErrRows
			return nil, false
		}
		v, ok := r.value(f)
		if !ok {
			return nil, false
		}
		l = append(l, v)
		if r.takes("]") {
			return l, true
		}
		if !r.must(",") {
			return nil, false
		}
	}
}

// span reads a span.
func (r *reader) span(width int, f api.Field) ([]api.Value, bool) {
	var l []api.Value
	ahead := "["
	for range width {
		if !r.must(ahead) {
			return nil, false
		}
		v, ok := r.value(f)
		if !ok {
			return nil, false
		}
		l = append(l, v)
		ahead = ","
	}
	return l, r.must("]")
}

// parts reads a struct.
func (r *reader) parts(fields []api.Field) ([]api.Value, bool) {
	if !r.must("{") {
		return nil, false
	}
	var l []api.Value
	for i, f := range fields {
		if i > 0 && !r.must(",") || !r.must(nameText(f)) {
			return nil, false
		}
		v, ok := r.value(f)
		if !ok {
			return nil, false
		}
		l = append(l, v)
	}
	return l, r.must("}")
}

// choice reads a choice.
func (r *reader) choice(fields []api.Field) (api.Value, bool) {
	name := r.row(isNameByte)
	n := slices.IndexFunc(fields, func(f api.Field) bool { return f.Name == name })
	if n < 0 {
		return api.Value{}, r.wrong()
	}
	r.at += len(name)
	if !r.must("(") {
		return api.Value{}, false
	}
	v, ok := r.value(fields[n])
	if !ok || !r.must(")") {
		return api.Value{}, false
	}
	return api.Value{Num: int64(n), List: []api.Value{v}}, true
}
