package expr

import (
	"strings"

	"colonnade/api"
	"colonnade/kind"
	"colonnade/value"
)

// reader is a text, and how far it is read.
type reader struct {
	text  string
	at    int
	nodes int // how many are begun
}

// read reads an expression; a fault's At is the place.
func read(text string) (e api.Expr, x api.Fault) {
	if len(text) > api.MaxText {
		return api.Expr{}, api.Fault{Err: api.ErrBytes}
	}
	r := &reader{text: text}
	x = caught(func() {
		e = r.node()
		if r.at < len(text) {
			wrongAt(r.at)
		}
		// Fields may be written in many ways, of which one is Print's.
		if own, err := Print(e); err != api.OK || own != text {
			wrongAt(0)
		}
	})
	if x.Err != api.OK {
		return api.Expr{}, x
	}
	return e, x
}

// wrongAt gives up at a byte that may not stand there.
func wrongAt(at int) { giveUp(api.ErrForm, at) }

// giveUp gives up with an error and its place.
func giveUp(e api.Errno, at int) { panic(api.Fault{Err: e, At: at}) }

// node reads a node, and all in it.
func (r *reader) node() api.Expr {
	if r.nodes == api.MaxExprs {
		giveUp(api.ErrExpr, r.at)
	}
	r.nodes++
	from, word := r.at, r.word()
	if !isName(word) {
		wrongAt(from)
	}
	r.at += len(word)
	if !r.takes('(') {
		// A copy, as a piece would keep the whole text.
		return api.Expr{Op: api.OpColumn, Name: strings.Clone(word)}
	}
	switch op := opOf(word); op {
	case api.OpNone:
		wrongAt(from)
		return api.Expr{}
	case api.OpLiteral:
		return r.literal()
	case api.OpCast:
		return r.casting()
	default:
		return api.Expr{Op: op, Args: r.args()}
	}
}

// word tells the longest row of letters, digits and _ from the reader's place on.
func (r *reader) word() string {
	end := r.at
	for end < len(r.text) && isLetter(r.text[end]) {
		end++
	}
	return r.text[r.at:end]
}

// isLetter tells whether a byte is a letter, a digit or _.
func isLetter(c byte) bool {
	return c >= 'a' && c <= 'z' || c >= 'A' && c <= 'Z' || c >= '0' && c <= '9' || c == '_'
}

// takes passes over a byte, if it stands there, and tells whether.
func (r *reader) takes(c byte) bool {
	is := r.at < len(r.text) && r.text[r.at] == c
	if is {
		r.at++
	}
	return is
}

// must passes over bytes that must stand there.
func (r *reader) must(text string) {
	for _, c := range []byte(text) {
		if !r.takes(c) {
			wrongAt(r.at)
		}
	}
}

// args reads arguments, and the bracket behind them.
func (r *reader) args() []api.Expr {
	var l []api.Expr
	for !r.takes(')') {
		if len(l) > 0 {
			r.must(", ")
		}
		l = append(l, r.node())
	}
	return l
}

// casting reads what stands behind `cast(`.
func (r *reader) casting() api.Expr {
	e := api.Expr{Op: api.OpCast}
	for !r.isAtField() {
		e.Args = append(e.Args, r.node())
		r.must(", ")
	}
	e.Field = r.field(r.piece())
	r.must(")")
	return e
}

// isAtField tells whether what stands there is a cast's field, and no argument: only behind a field's name stands a blank.
func (r *reader) isAtField() bool {
	word := r.word()
	return word != "" && strings.HasPrefix(r.text[r.at+len(word):], " ")
}

// literal reads what stands behind `lit(`.
func (r *reader) literal() api.Expr {
	text, _, found := strings.Cut(r.text[r.at:], " = ")
	if !found {
		wrongAt(len(r.text))
	}
	f := r.field(text)
	r.must(" = ")
	text = r.piece()
	v, e, at := value.Parse(f, text)
	if e != api.OK {
		giveUp(e, r.at+at)
	}
	r.at += len(text)
	r.must(")")
	return api.Expr{Op: api.OpLiteral, Field: f, Value: v}
}

// field reads the text of a field, which stands there.
func (r *reader) field(text string) api.Field {
	f, e, at := kind.ParseField(text)
	if e != api.OK {
		giveUp(e, r.at+at)
	}
	r.at += len(text)
	return f
}

// piece tells what stands there up to ahead of the comma or bracket that ends it.
func (r *reader) piece() string {
	open := 0
	for i := r.at; i < len(r.text); i++ {
		switch c := r.text[i]; c {
		case '"':
			i = r.quoteEnd(i)
		case '(', '[', '{':
			open++
		case ',', ')', ']', '}':
			if open == 0 && (c == ',' || c == ')') {
				return r.text[r.at:i]
			}
			if c != ',' {
				open = max(open-1, 0)
			}
		}
	}
	return r.text[r.at:]
}

// quoteEnd tells where the quote that begins at a place ends, or the text within it.
func (r *reader) quoteEnd(from int) int {
	for i := from + 1; i < len(r.text); i++ {
		switch r.text[i] {
		case '\\':
			i++
		case '"':
			return i
		}
	}
	return len(r.text)
}
