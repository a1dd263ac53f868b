package expr

import (
	"strings"

	"colonnade/api"
	"colonnade/kind"
	"colonnade/value"
)

// words are the operations' words, by their numbers. (A column has none.)
var words = [...]string{
	api.OpAdd: "add", api.OpSub: "sub", api.OpMul: "mul", api.OpDiv: "div", api.OpRem: "rem", api.OpNeg: "neg",
	api.OpEq: "eq", api.OpNe: "ne", api.OpLt: "lt", api.OpLe: "le", api.OpGt: "gt", api.OpGe: "ge",
	api.OpAnd: "and", api.OpOr: "or", api.OpNot: "not", api.OpIsNull: "isnull", api.OpElse: "else", api.OpIf: "if",
	api.OpGlue: "glue", api.OpLen: "len", api.OpBegins: "begins", api.OpHolds: "holds",
	api.OpCast: "cast", api.OpLiteral: "lit",
}

// opOf tells the operation of a word that may be a name; OpNone: there is none.
func opOf(word string) int {
	for op, w := range words {
		if w == word {
			return op
		}
	}
	return api.OpNone
}

// text tells the part's text, or why there is none.
func (p *part) text() (string, api.Errno) {
	var w printer
	x := caught(func() {
		p.sift()
		w.part(p)
	})
	if x.Err != api.OK {
		return "", x.Err
	}
	return w.text.String(), api.OK
}

// sift gives up at the first node from above with whose field or value something is wrong.
func (p *part) sift() {
	p.refuse(p.node.wrong())
	for _, a := range p.args {
		a.sift()
	}
}

// printer is a text in the making.
type printer struct{ text strings.Builder }

// add puts a text behind, or gives up, if the whole is too long with it.
func (w *printer) add(text string) {
	if w.text.Len()+len(text) > api.MaxText {
		panic(api.Fault{Err: api.ErrBytes})
	}
	w.text.WriteString(text)
}

// part puts the text of a part behind.
func (w *printer) part(p *part) {
	switch n := p.node.(type) {
	case *column:
		w.add(n.name)
	case *literal:
		w.add(words[api.OpLiteral] + "(")
		w.field(n.field)
		w.add(" = ")
		text, e := value.Print(n.field, n.value)
		p.refuse(e) // it is too long
		w.add(text + ")")
	case casting:
		w.add(words[api.OpCast] + "(")
		for _, a := range p.args {
			w.part(a)
			w.add(", ")
		}
		w.field(n.to)
		w.add(")")
	default:
		w.add(words[n.bare().Op] + "(")
		for k, a := range p.args {
			if k > 0 {
				w.add(", ")
			}
			w.part(a)
		}
		w.add(")")
	}
}

// field puts the text of a field that may be behind.
func (w *printer) field(f api.Field) {
	text, _ := kind.PrintField(f)
	w.add(text)
}
