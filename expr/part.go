package expr

import (
	"slices"

	"colonnade/api"
	"colonnade/kind"
)

// part is a node where it stands in an expression.
type part struct {
	node   node
	above  *part // whose argument it is; nil: it is the whole
	number int   // which argument
	args   []*part
	field  api.Field // over the schema over which it was typed
}

// way tells the way to a part.
func (p *part) way() []int {
	var l []int
	for ; p.above != nil; p = p.above {
		l = append(l, p.number)
	}
	slices.Reverse(l)
	return l
}

// refuse gives up, if there is an error, with the way to the part.
func (p *part) refuse(e api.Errno) {
	if e != api.OK {
		panic(api.Fault{Err: e, Path: p.way()})
	}
}

// caught does what may give up, and tells the fault with which it did.
func caught(do func()) (x api.Fault) {
	defer func() {
		switch r := recover().(type) {
		case nil:
		case api.Fault:
			x = r
		default:
			panic(r)
		}
	}()
	do()
	return api.Fault{}
}

// grown tells the parts of an expression; of one that may not be the fault.
func grown(e api.Expr) (whole *part, x api.Fault) {
	n := 0
	x = caught(func() { whole = grow(e, nil, 0, &n) })
	if x.Err != api.OK {
		return nil, x
	}
	return whole, x
}

// grow makes the part of an expression that is that argument of the part above, so many parts being made already. (Nodes are looked at from above: so an expression that holds itself ends, too.)
func grow(e api.Expr, above *part, number int, made *int) *part {
	p := &part{above: above, number: number}
	if *made == api.MaxExprs {
		p.refuse(api.ErrExpr)
	}
	*made++
	if p.node = nodeOf(e); p.node == nil {
		p.refuse(api.ErrExpr)
	}
	for k, a := range e.Args {
		p.args = append(p.args, grow(a, p, k, made))
	}
	return p
}

// typed tells the parts of an expression, each with its field over a schema; or what is wrong.
func typed(s api.Schema, e api.Expr) (*part, api.Fault) {
	if kind.Check(s).Err != api.OK {
		return nil, api.Fault{Err: api.ErrType}
	}
	p, x := grown(e)
	if x.Err != api.OK {
		return nil, x
	}
	if x := caught(func() { p.find(s) }); x.Err != api.OK {
		return nil, x
	}
	return p, api.Fault{}
}

// find finds the fields of the part and of all in it, from within.
func (p *part) find(s api.Schema) {
	for _, a := range p.args {
		a.find(s)
	}
	f, e := p.node.typed(s, p.fields())
	p.refuse(e)
	p.field = f
}

// fields tells the fields of the arguments.
func (p *part) fields() []api.Field {
	l := make([]api.Field, len(p.args))
	for k, a := range p.args {
		l[k] = a.field
	}
	return l
}

// names tells a list with the names of the part's columns behind it that are not in it yet.
func (p *part) names(l []string) []string {
	if n, ok := p.node.(*column); ok && !slices.Contains(l, n.name) {
		l = append(l, n.name)
	}
	for _, a := range p.args {
		l = a.names(l)
	}
	return l
}

// expr tells the part as an expression, in memory of its own.
func (p *part) expr() api.Expr {
	e := p.node.bare()
	for _, a := range p.args {
		e.Args = append(e.Args, a.expr())
	}
	return e
}
