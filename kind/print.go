package kind

import (
	"strconv"
	"strings"

	"colonnade/api"
)

// hex tells the digits of base sixteen.
const hex = "0123456789abcdef"

// Print writes a schema as text.
func Print(s api.Schema) (string, api.Errno) {
	if !mayBe(s) {
		return "", api.ErrType
	}
	text := strings.Join(fieldTexts(s.Fields), ", ")
	if len(s.Notes) == 0 {
		return text, api.OK
	}
	if text != "" {
		text += " "
	}
	return text + "| " + strings.Join(noteTexts(s.Notes), ", "), api.OK
}

// PrintField writes a field as text.
func PrintField(f api.Field) (string, api.Errno) {
	if !fieldMayBe(f) {
		return "", api.ErrType
	}
	return fieldText(f), api.OK
}

// fieldText writes a field that may be.
func fieldText(f api.Field) string {
	text := f.Name + " " + typeText(f.Type)
	if f.Nullable {
		text += "?"
	}
	return text
}

// fieldTexts writes fields that may be.
func fieldTexts(list []api.Field) []string {
	var l []string
	for _, f := range list {
		l = append(l, fieldText(f))
	}
	return l
}

// typeText writes a type that may be.
func typeText(t api.Type) string {
	word := kinds[t.Kind].word
	if !isBracketed(t.Kind) {
		return word
	}
	var l []string
	switch t.Kind {
	case api.Fixed, api.Span:
		l = append(l, strconv.Itoa(t.Width))
	case api.Dict:
		l = append(l, strconv.Itoa(t.ID), kinds[t.Index].word)
	}
	l = append(l, fieldTexts(t.Fields)...)
	return word + "(" + strings.Join(l, ", ") + ")"
}

// isBracketed tells whether brackets stand behind the word of a kind.
func isBracketed(k int) bool { return k >= api.Fixed }

// noteTexts writes notes.
func noteTexts(notes []api.Note) []string {
	var l []string
	for _, n := range notes {
		l = append(l, quotedText(n.Key)+" "+quotedText(n.Text))
	}
	return l
}

// quotedText writes any bytes as a quoted text.
func quotedText(text string) string {
	b := []byte{'"'}
	for i := range len(text) {
		c := text[i]
		switch {
		case c == '"' || c == '\\':
			b = append(b, '\\', c)
		case isPlain(c):
			b = append(b, c)
		default:
			b = append(b, '\\', 'x', hex[c>>4], hex[c&15])
		}
	}
	return string(append(b, '"'))
}

// isPlain tells whether a byte stands in a quoted text as it is (of the quote and the backslash that is told ahead).
func isPlain(c byte) bool { return ' ' <= c && c <= '~' }
