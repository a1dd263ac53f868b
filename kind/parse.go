package kind

import (
	"strings"

	"colonnade/api"
)

// Parse reads a schema; of an error the place too.
func Parse(text string) (api.Schema, api.Errno, int) {
	return read(text, func(r *reader) api.Schema { return r.schema() })
}

// ParseField reads a field; of an error the place too.
func ParseField(text string) (api.Field, api.Errno, int) {
	s, e, at := read(text, func(r *reader) api.Schema { return alone(r.field()) })
	if e != api.OK {
		return api.Field{}, e, at
	}
	return s.Fields[0], api.OK, 0
}

// stuck is the place at which a reader gives up: it panics with it.
type stuck int

// reader is a text, and how far it is read.
type reader struct {
	text  string
	at    int
	names []int // where each field's name begins, in the fields' order
}

// read reads all of a text as that part of the grammar, and then asks whether it may be.
func read(text string, part func(*reader) api.Schema) (s api.Schema, e api.Errno, at int) {
	if len(text) > api.MaxText {
		return api.Schema{}, api.ErrBytes, api.MaxText
	}
	defer func() {
		switch x := recover().(type) {
		case nil:
		case stuck:
			s, e, at = api.Schema{}, api.ErrForm, int(x)
		default:
			panic(x)
		}
	}()
	r := &reader{text: text}
	s = part(r)
	r.end()
	x, ahead := look(s)
	switch {
	case x.Err == api.OK:
		return s, api.OK, 0
	case len(x.Path) == 0:
		return api.Schema{}, x.Err, 0
	}
	return api.Schema{}, x.Err, r.names[ahead]
}

// schema reads a schema.
func (r *reader) schema() api.Schema {
	var s api.Schema
	if c := r.peek(); c != '|' && r.at < len(r.text) {
		s.Fields = r.fields()
	}
	if !r.takes('|') {
		return s
	}
	s.Notes = []api.Note{r.note()}
	for r.takes(',') {
		s.Notes = append(s.Notes, r.note())
	}
	return s
}

// note reads a note.
func (r *reader) note() api.Note {
	key := r.quoted()
	return api.Note{Key: key, Text: r.quoted()}
}

// fields reads one field or several.
func (r *reader) fields() []api.Field {
	l := r.oneField()
	for r.takes(',') {
		l = append(l, r.field())
	}
	return l
}

// oneField reads just one field, as a list.
func (r *reader) oneField() []api.Field { return []api.Field{r.field()} }

// field reads a field.
func (r *reader) field() api.Field {
	var f api.Field
	f.Name = r.name()
	f.Type = r.typ()
	f.Nullable = r.takes('?')
	return f
}

// name reads a field's name, and keeps its place.
func (r *reader) name() string {
	word, from := r.word()
	if word == "" {
		panic(stuck(from))
	}
	r.names = append(r.names, from)
	// A copy, as a piece would keep the whole text.
	return strings.Clone(word)
}

// typ reads a type.
func (r *reader) typ() api.Type {
	t := api.Type{Kind: r.meaning(kindOf)}
	if !isBracketed(t.Kind) {
		return t
	}
	r.must('(')
	switch t.Kind {
	case api.Fixed:
		t.Width = r.meaning(numberOf)
	case api.List, api.Runs:
		t.Fields = r.oneField()
	case api.Span:
		t.Width = r.meaning(numberOf)
		r.must(',')
		t.Fields = r.oneField()
	case api.Struct:
		if r.peek() != ')' {
			t.Fields = r.fields()
		}
	case api.Choice:
		t.Fields = r.fields()
	case api.Dict:
		t.ID = r.meaning(numberOf)
		r.must(',')
		t.Index = r.meaning(indexOf)
		r.must(',')
		t.Fields = r.oneField()
	}
	r.must(')')
	return t
}

// peek passes over blanks, and tells the byte behind them; 0, which begins no token, at the text's end.
func (r *reader) peek() byte {
	for r.at < len(r.text) && isBlank(r.text[r.at]) {
		r.at++
	}
	if r.at == len(r.text) {
		return 0
	}
	return r.text[r.at]
}

// isBlank tells whether a byte is a blank.
func isBlank(c byte) bool { return c == ' ' || c == '\t' || c == '\n' }

// takes reads a sign, if it is the next token.
func (r *reader) takes(sign byte) bool {
	if r.peek() != sign {
		return false
	}
	r.at++
	return true
}

// must reads a sign.
func (r *reader) must(sign byte) {
	if !r.takes(sign) {
		panic(stuck(r.at))
	}
}

// end is where nothing but blanks may be left.
func (r *reader) end() {
	r.peek()
	if r.at < len(r.text) {
		panic(stuck(r.at))
	}
}

// word reads a word (an empty one, if the next token is none), and tells where it begins.
func (r *reader) word() (word string, from int) {
	r.peek()
	from = r.at
	for r.at < len(r.text) && isWordByte(r.text[r.at]) {
		r.at++
	}
	return r.text[from:r.at], from
}

// meaning reads a word, and tells the number for which it stands; one for which of tells -1 can't stand there.
func (r *reader) meaning(of func(word string) int) int {
	word, from := r.word()
	n := of(word)
	if n < 0 {
		panic(stuck(from))
	}
	return n
}

// numberOf tells a number of one to four digits, written in its one form; -1: it is none.
func numberOf(word string) int {
	if len(word) < 1 || len(word) > 4 || word[0] == '0' && len(word) > 1 {
		return -1
	}
	n := 0
	for i := range len(word) {
		if !isDigit(word[i]) {
			return -1
		}
		n = 10*n + int(word[i]-'0')
	}
	return n
}

// quoted reads a quoted text.
func (r *reader) quoted() string {
	r.must('"')
	var b []byte
	for {
		from := r.at
		c := r.next()
		switch {
		case c == '"':
			return string(b)
		case c == '\\':
			b = append(b, r.escape(from))
		case isPlain(c):
			b = append(b, c)
		default:
			panic(stuck(from))
		}
	}
}

// next reads a byte of a quoted text.
func (r *reader) next() byte {
	if r.at == len(r.text) {
		panic(stuck(r.at))
	}
	r.at++
	return r.text[r.at-1]
}

// escape reads what follows a backslash, whose place is the fault's if it is no escape.
func (r *reader) escape(from int) byte {
	switch c := r.next(); c {
	case '"', '\\':
		return c
	case 'x':
		high := r.digit(from)
		return high<<4 | r.digit(from)
	}
	panic(stuck(from))
}

// digit reads a digit of base sixteen of the escape that begins at a place.
func (r *reader) digit(from int) byte {
	n := strings.IndexByte(hex, r.next())
	if n < 0 {
		panic(stuck(from))
	}
	return byte(n)
}
