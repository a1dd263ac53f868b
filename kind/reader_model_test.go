package kind

import (
	"fmt"
	"regexp"
	"strconv"
	"strings"

	"colonnade/api"
)

// The model of the texts: tokens by regular expressions, the grammar by a stack of what is still to come.

// token is a token of a text: w a word, q a quoted text, e the end, or the sign itself; 0 is none.
type token struct {
	class byte
	at    int
	text  string
}

var (
	modelBlanks = regexp.MustCompile(`\A[ \t\n]*`)
	modelWord   = regexp.MustCompile(`\A[a-zA-Z0-9_]+`)
	modelSign   = regexp.MustCompile(`\A[(),?|]`)
	modelQuoted = regexp.MustCompile(`\A"([ !#-\[\]-~]|\\["\\]|\\x[0-9a-f]{2})*"`)
	modelInside = regexp.MustCompile(`\A"([ !#-\[\]-~]|\\["\\]|\\x[0-9a-f]{2})*`)
	modelBegun  = regexp.MustCompile(`\A(\\|\\x|\\x[0-9a-f])\z`)
	modelNumber = regexp.MustCompile(`\A(0|[1-9][0-9]{0,3})\z`)
)

// tokenAt is the token behind the blanks at a place. A quoted text need not be a whole one.
func tokenAt(text string, at int) token {
	at += len(modelBlanks.FindString(text[at:]))
	rest := text[at:]
	switch {
	case rest == "":
		return token{'e', at, ""}
	case rest[0] == '"':
		return token{'q', at, modelQuoted.FindString(rest)}
	case modelWord.MatchString(rest):
		return token{'w', at, modelWord.FindString(rest)}
	case modelSign.MatchString(rest):
		return token{rest[0], at, rest[:1]}
	}
	return token{0, at, ""}
}

// modelBrokenQuote is the place of the fault of a quoted text that is no whole one.
func modelBrokenQuote(text string, at int) int {
	at += len(modelInside.FindString(text[at:]))
	if modelBegun.MatchString(text[at:]) {
		return len(text)
	}
	return at
}

// modelRules tells what may come for each part, by the token that comes: a letter a part or token. N a name, T a type, # a number, I an index's word, Q a quoted text.
func modelRule(part byte, t token) (string, bool) {
	switch part {
	case 'S': // a schema
		switch t.class {
		case 'w':
			return "FMO", true
		default:
			return "O", true
		}
	case 'M': // more fields
		if t.class == ',' {
			return ",FM", true
		}
		return "", true
	case 'O': // notes, or none
		if t.class == '|' {
			return "|QQK", true
		}
		return "", true
	case 'K': // more notes
		if t.class == ',' {
			return ",QQK", true
		}
		return "", true
	case 'F':
		return "NT?", true
	case 'L': // fields, or none
		if t.class == ')' {
			return "", true
		}
		return "FM", true
	}
	return "", false
}

var modelTypes = map[string]string{
	"fixed": "(#)", "list": "(F)", "runs": "(F)", "span": "(#,F)", "struct": "(L)", "choice": "(FM)", "dict": "(#,I,F)",
}

// modelForm goes through a text by its grammar: its tokens, or the place of the first fault (-1: none).
func modelForm(text string, start string) ([]token, int) {
	stack := start + "e"
	var l []token
	at := 0
	for stack != "" {
		part := stack[0]
		stack = stack[1:]
		t := tokenAt(text, at)
		if more, ok := modelRule(part, t); ok {
			stack = more + stack
			continue
		}
		fits := part == t.class
		switch part {
		case '?':
			if t.class != '?' {
				continue
			}
		case 'N':
			fits = t.class == 'w'
		case 'T':
			more, bracketed := modelTypes[t.text]
			fits = t.class == 'w' && (bracketed || modelKindOf(t.text, 1, 13) > 0)
			stack = more + stack
		case 'I':
			fits = t.class == 'w' && modelKindOf(t.text, 3, 10) > 0
		case '#':
			fits = t.class == 'w' && modelNumber.MatchString(t.text)
		case 'Q':
			if t.class == 'q' && t.text == "" {
				return nil, modelBrokenQuote(text, t.at)
			}
			fits = t.class == 'q'
		}
		if !fits {
			return nil, t.at
		}
		l = append(l, t)
		at = t.at + len(t.text)
	}
	return l[:len(l)-1], -1
}

// modelKindOf is the kind of a word, from one up to another; 0: none.
func modelKindOf(word string, from, to int) int {
	for k := from; k <= to; k++ {
		if modelTable[k].word == word {
			return k
		}
	}
	return 0
}

// maker makes a schema out of tokens that are of the form, and keeps the places of the names by their ways.
type maker struct {
	l     []token
	names map[string]int
}

func (m *maker) take() token {
	t := m.l[0]
	m.l = m.l[1:]
	return t
}

func (m *maker) comes(class byte) bool { return len(m.l) > 0 && m.l[0].class == class }

func (m *maker) schema() api.Schema {
	var s api.Schema
	for i := 0; m.comes('w'); i++ {
		s.Fields = append(s.Fields, m.field([]int{i}))
		if m.comes(',') {
			m.take()
		}
	}
	for len(m.l) > 0 {
		m.take()
		key := m.take()
		s.Notes = append(s.Notes, api.Note{Key: modelUnquote(key.text), Text: modelUnquote(m.take().text)})
	}
	return s
}

func (m *maker) field(way []int) api.Field {
	name := m.take()
	m.names[fmt.Sprint(way)] = name.at
	f := api.Field{Name: name.text}
	f.Type.Kind = modelKindOf(m.take().text, 1, 20)
	if m.comes('(') {
		m.inside(&f.Type, way)
	}
	if m.comes('?') {
		m.take()
		f.Nullable = true
	}
	return f
}

func (m *maker) inside(t *api.Type, way []int) {
	m.take()
	switch t.Kind {
	case api.Fixed, api.Span:
		t.Width, _ = strconv.Atoi(m.take().text)
	case api.Dict:
		t.ID, _ = strconv.Atoi(m.take().text)
		m.take()
		t.Index = modelKindOf(m.take().text, 3, 10)
	}
	for !m.comes(')') {
		if m.comes(',') {
			m.take()
		}
		t.Fields = append(t.Fields, m.field(append(append([]int{}, way...), len(t.Fields))))
	}
	m.take()
}

// modelUnquote reads a quoted text: Go's own quotes have these escapes, too.
func modelUnquote(quoted string) string {
	s, err := strconv.Unquote(quoted)
	if err != nil {
		panic(err)
	}
	return s
}

// modelParse is the chapter's Parse; of a field, if alone.
func modelParse(text string, alone bool) (api.Schema, api.Errno, int) {
	start := "S"
	if alone {
		start = "F"
	}
	if len(text) > 65536 {
		return api.Schema{}, 4, 65536
	}
	l, at := modelForm(text, start)
	if at >= 0 {
		return api.Schema{}, 8, at
	}
	m := &maker{l, map[string]int{}}
	s := m.schema()
	x := modelCheck(s)
	switch {
	case x.Err == 0:
		return s, 0, 0
	case len(x.Path) == 0:
		return api.Schema{}, x.Err, 0
	}
	return api.Schema{}, x.Err, m.names[fmt.Sprint(x.Path)]
}

// loose writes a schema, whether it may be or not, with any blanks that may stand there. Of what can't be written (no kind, no word) it writes something else.
func (c *chance) loose(s api.Schema) string {
	var l []string
	for i, f := range s.Fields {
		if i > 0 {
			l = append(l, ",")
		}
		l = append(l, looseField(f)...)
	}
	for i, n := range s.Notes {
		l = append(l, []string{"|", ","}[min(i, 1)], c.quote(n.Key), c.quote(n.Text))
	}
	var b strings.Builder
	for i, x := range l {
		if i > 0 && modelWord.MatchString(x) && modelWord.MatchString(l[i-1]) {
			b.WriteByte(' ')
		}
		b.WriteString(strings.Repeat([]string{" ", "\t", "\n", ""}[c.Intn(4)], c.Intn(3)))
		b.WriteString(x)
	}
	b.WriteString([]string{"", "", " ", "\n\t"}[c.Intn(4)])
	return b.String()
}

func looseField(f api.Field) []string {
	l := []string{f.Name, modelTable[f.Type.Kind].word}
	var in []string
	switch f.Type.Kind {
	case api.Fixed, api.Span:
		in = append(in, strconv.Itoa(f.Type.Width))
	case api.Dict:
		in = append(in, strconv.Itoa(f.Type.ID), ",", modelTable[f.Type.Index].word)
	}
	for _, g := range f.Type.Fields {
		if in != nil {
			in = append(in, ",")
		}
		in = append(in, looseField(g)...)
	}
	if in != nil || f.Type.Kind == api.Struct {
		l = append(append(append(l, "("), in...), ")")
	}
	if f.Nullable {
		l = append(l, "?")
	}
	return l
}

// quote writes a quoted text, some bytes by escapes that need none.
func (c *chance) quote(text string) string {
	s := `"`
	for i := range len(text) {
		switch x := text[i]; {
		case x < 0x20 || x > 0x7e || c.Intn(3) == 0:
			s += fmt.Sprintf(`\x%02x`, x)
		case x == '"' || x == '\\':
			s += `\` + string(rune(x))
		default:
			s += string(rune(x))
		}
	}
	return s + `"`
}
