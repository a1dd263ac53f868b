package value

import "colonnade/api"

// hex tells the digits of base sixteen.
const hex = "0123456789abcdef"

// Print tells a value's text.
func Print(f api.Field, v api.Value) (string, api.Errno) {
	if !mayBe(f) {
		return "", api.ErrType
	}
	if !fits(f, v) {
		return "", api.ErrValue
	}
	out := appendValue(nil, f, v)
	if len(out) > api.MaxText {
		return "", api.ErrBytes
	}
	return string(out), api.OK
}

// appendValue writes a value that fits. Behind a text that is too long already it writes nothing.
func appendValue(out []byte, f api.Field, v api.Value) []byte {
	t := f.Type
	switch {
	case len(out) > api.MaxText:
		return out
	case v.Null:
		return append(out, "null"...)
	case isNumber(t.Kind):
		return append(out, numberText(t.Kind, v.Num)...)
	}
	switch t.Kind {
	case api.Text:
		return appendLetters(out, v.Text)
	case api.Bytes, api.Fixed:
		return appendDigits(out, v.Text)
	case api.Struct:
		return appendParts(out, t.Fields, v.List)
	case api.Choice:
		return appendChoice(out, t.Fields[v.Num], v.List[0])
	case api.Dict, api.Runs:
		return appendValue(out, t.Fields[0], v)
	}
	return appendItems(out, t.Fields[0], v.List)
}

// appendLetters writes a Text.
func appendLetters(out []byte, text string) []byte {
	out = append(out, '"')
	for i := range len(text) {
		if c := text[i]; isPlain(c) {
			out = append(out, c)
		} else {
			out = append(out, escaped(c)...)
		}
	}
	return append(out, '"')
}

// isPlain tells whether a byte stands in the text of a Text as it is.
func isPlain(c byte) bool { return c >= 32 && c != '"' && c != '\\' && c != 127 }

// escaped tells how a byte that isn't plain is written.
func escaped(c byte) string {
	switch c {
	case '\t':
		return `\t`
	case '\n':
		return `\n`
	case '\r':
		return `\r`
	case '"':
		return `\"`
	case '\\':
		return `\\`
	}
	return string([]byte{'\\', 'x', hex[c>>4], hex[c&15]})
}

// appendDigits writes Bytes or a Fixed.
func appendDigits(out []byte, text string) []byte {
	out = append(out, `x"`...)
	for i := range len(text) {
		out = append(out, hex[text[i]>>4], hex[text[i]&15])
	}
	return append(out, '"')
}

// appendItems writes a list or a span.
func appendItems(out []byte, f api.Field, list []api.Value) []byte {
	out = append(out, '[')
	for i, v := range list {
		out = appendValue(appendComma(out, i), f, v)
	}
	return append(out, ']')
}

// appendParts writes a struct.
func appendParts(out []byte, fields []api.Field, list []api.Value) []byte {
	out = append(out, '{')
	for i, v := range list {
		out = append(appendComma(out, i), nameText(fields[i])...)
		out = appendValue(out, fields[i], v)
	}
	return append(out, '}')
}

// nameText tells how the name of a struct's child is written.
func nameText(f api.Field) string { return f.Name + ":" }

// appendComma writes what stands ahead of the part of a number.
func appendComma(out []byte, number int) []byte {
	if number == 0 {
		return out
	}
	return append(out, ',')
}

// appendChoice writes a choice of a child.
func appendChoice(out []byte, f api.Field, v api.Value) []byte {
	out = append(append(out, f.Name...), '(')
	return append(appendValue(out, f, v), ')')
}
