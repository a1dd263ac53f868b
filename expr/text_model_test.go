package expr

import (
	"regexp"
	"strings"

	"colonnade/api"
	"colonnade/kind"
	"colonnade/value"
)

// theWords are the words as the chapter tells them.
const theWords = "add sub mul div rem neg eq ne lt le gt ge and or not isnull else if glue len begins holds"

// modelPrint is Print by the chapter's words.
func modelPrint(e api.Expr) (string, api.Errno) {
	if modelMayBe(e).Err != api.OK {
		return "", api.ErrExpr
	}
	for _, x := range above(e) {
		switch typed := x.e.Op == api.OpLiteral || x.e.Op == api.OpCast; {
		case typed && kind.CheckField(x.e.Field).Err != api.OK:
			return "", api.ErrType
		case x.e.Op == api.OpLiteral && value.Fits(x.e.Field, x.e.Value) != api.OK:
			return "", api.ErrValue
		}
	}
	text, ok := modelText(e)
	if !ok || len(text) > api.MaxText {
		return "", api.ErrBytes
	}
	return text, api.OK
}

// modelText is the text of an expression; false: of a value in it there is none, as it is too long.
func modelText(e api.Expr) (string, bool) {
	if e.Op == api.OpColumn {
		return e.Name, true
	}
	f, _ := kind.PrintField(e.Field)
	if e.Op == api.OpLiteral {
		v, x := value.Print(e.Field, e.Value)
		return "lit(" + f + " = " + v + ")", x == api.OK
	}
	var parts []string
	for _, a := range e.Args {
		text, ok := modelText(a)
		if !ok {
			return "", false
		}
		parts = append(parts, text)
	}
	word := "cast"
	if e.Op == api.OpCast {
		parts = append(parts, f)
	} else {
		word = strings.Fields(theWords)[e.Op-1]
	}
	return word + "(" + strings.Join(parts, ", ") + ")", true
}

// What the model looks for at a place.
var (
	rowOf   = regexp.MustCompile(`^[a-zA-Z0-9_]*`)
	nameOf  = regexp.MustCompile(`^[a-zA-Z_][a-zA-Z0-9_]{0,47}$`)
	quotes  = regexp.MustCompile(`(?s)"(?:[^"\\]|\\.)*(?:"|\\?$)`)
	fieldAt = regexp.MustCompile(`^[a-zA-Z0-9_]+ `)
)

// modelPiece tells the piece with which a text begins: quotes are made letters first.
func modelPiece(text string) string {
	letters := func(s string) string { return strings.Repeat("q", len(s)) }
	level := 0
	for i, c := range []byte(quotes.ReplaceAllStringFunc(text, letters)) {
		switch c {
		case '(', '[', '{':
			level++
		case ']', '}':
			level = max(0, level-1)
		case ')':
			if level == 0 {
				return text[:i]
			}
			level--
		case ',':
			if level == 0 {
				return text[:i]
			}
		}
	}
	return text
}

// opened is a node of which the text goes on.
type opened struct {
	e     api.Expr
	comma bool // an argument stands ahead
}

// modelReader reads a text with a pile of the nodes that are open.
type modelReader struct {
	text  string
	at    int
	nodes int
	pile  []opened
	err   api.Errno
}

// wrong ends the reading at a place.
func (r *modelReader) wrong(e api.Errno, at int) *api.Expr {
	r.err, r.at = e, at
	return nil
}

// modelParse is Parse by the chapter's words.
func modelParse(text string) (api.Expr, api.Errno, int) {
	if len(text) > api.MaxText {
		return api.Expr{}, api.ErrBytes, 0
	}
	r := &modelReader{text: text}
	var whole *api.Expr
	for whole == nil {
		e := r.begun()
		for e != nil && len(r.pile) > 0 {
			top := &r.pile[len(r.pile)-1]
			top.e.Args, top.comma = append(top.e.Args, *e), true
			e = r.goesOn()
		}
		if r.err != api.OK {
			return api.Expr{}, r.err, r.at
		}
		whole = e
	}
	if r.at != len(text) {
		return api.Expr{}, api.ErrForm, r.at
	}
	if own, e := modelPrint(*whole); e != api.OK || own != text {
		return api.Expr{}, api.ErrForm, 0
	}
	return *whole, api.OK, 0
}

// begun reads the beginning of a node; where it ends there, too, it tells it.
func (r *modelReader) begun() *api.Expr {
	from := r.at
	if r.nodes == api.MaxExprs {
		return r.wrong(api.ErrExpr, from)
	}
	r.nodes++
	word := rowOf.FindString(r.text[from:])
	if !nameOf.MatchString(word) {
		return r.wrong(api.ErrForm, from)
	}
	r.at += len(word)
	if !strings.HasPrefix(r.text[r.at:], "(") {
		return &api.Expr{Op: api.OpColumn, Name: word}
	}
	r.at++
	if word == "lit" {
		return r.literal()
	}
	op := api.OpCast
	if word != "cast" {
		op = 0
		for i, w := range strings.Fields(theWords) {
			if w == word {
				op = i + 1
			}
		}
	}
	if op == 0 {
		return r.wrong(api.ErrForm, from)
	}
	r.pile = append(r.pile, opened{e: api.Expr{Op: op}})
	if op != api.OpCast && strings.HasPrefix(r.text[r.at:], ")") || op == api.OpCast && fieldAt.MatchString(r.text[r.at:]) {
		return r.goesOn()
	}
	return nil
}

// goesOn reads what stands behind an argument of the node that is open, or behind its bracket; where it ends, it tells it.
func (r *modelReader) goesOn() *api.Expr {
	top := &r.pile[len(r.pile)-1]
	isCast := top.e.Op == api.OpCast
	if top.comma && (isCast || !strings.HasPrefix(r.text[r.at:], ")")) {
		for _, c := range []string{",", " "} {
			if !strings.HasPrefix(r.text[r.at:], c) {
				return r.wrong(api.ErrForm, r.at)
			}
			r.at++
		}
		if !isCast || !fieldAt.MatchString(r.text[r.at:]) {
			return nil
		}
	}
	if isCast {
		piece := modelPiece(r.text[r.at:])
		f, e, at := kind.ParseField(piece)
		if e != api.OK {
			return r.wrong(e, r.at+at)
		}
		top.e.Field = f
		r.at += len(piece)
	}
	return r.closed()
}

// closed reads the bracket that ends the node that is open, and tells it.
func (r *modelReader) closed() *api.Expr {
	if !strings.HasPrefix(r.text[r.at:], ")") {
		return r.wrong(api.ErrForm, r.at)
	}
	r.at++
	e := r.pile[len(r.pile)-1].e
	r.pile = r.pile[:len(r.pile)-1]
	return &e
}

// literal reads what stands behind `lit(`.
func (r *modelReader) literal() *api.Expr {
	n := strings.Index(r.text[r.at:], " = ")
	if n < 0 {
		return r.wrong(api.ErrForm, len(r.text))
	}
	f, e, at := kind.ParseField(r.text[r.at : r.at+n])
	if e != api.OK {
		return r.wrong(e, r.at+at)
	}
	r.at += n + 3
	piece := modelPiece(r.text[r.at:])
	v, e, at := value.Parse(f, piece)
	if e != api.OK {
		return r.wrong(e, r.at+at)
	}
	r.at += len(piece)
	r.pile = append(r.pile, opened{e: lit(f, v)})
	return r.closed()
}
