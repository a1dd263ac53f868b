package expr

import (
	"slices"

	"colonnade/api"
	"colonnade/calc"
	"colonnade/cast"
	"colonnade/kind"
	"colonnade/value"
)

// node is what an expression is by itself, its arguments aside.
type node interface {
	// bare tells it as an expression without arguments.
	bare() api.Expr
	// wrong tells what is wrong with its field, or with its value.
	wrong() api.Errno
	// typed tells its field over a schema, with arguments of such fields.
	typed(s api.Schema, args []api.Field) (api.Field, api.Errno)
	// ask tells what it makes of each of some rows, one at least, as the node of a part; it gives up where one is refused.
	ask(p *part, rows [][]api.Value) []api.Value
}

// nodeOf tells which node an expression is; nil: it is none.
func nodeOf(e api.Expr) node {
	switch {
	case e.Op == api.OpColumn && isName(e.Name) && len(e.Args) == 0 && isZeroField(e.Field) && isZero(e.Value):
		return &column{name: e.Name}
	case e.Op == api.OpColumn || e.Name != "":
		return nil
	case e.Op == api.OpLiteral && len(e.Args) == 0:
		return &literal{field: e.Field, value: e.Value}
	case e.Op == api.OpCast && isZero(e.Value):
		return casting{to: e.Field}
	case e.Op < api.OpAdd || e.Op > api.OpHolds || !isZeroField(e.Field) || !isZero(e.Value):
		return nil
	case e.Op == api.OpIf || e.Op == api.OpElse || e.Op == api.OpAnd || e.Op == api.OpOr:
		return lazy{reckoning{e.Op}}
	}
	return reckoning{e.Op}
}

// isName tells whether a field may have a name.
func isName(name string) bool {
	return kind.CheckField(api.Field{Name: name, Type: api.Type{Kind: api.Bool}}).Err == api.OK
}

// isZeroField tells whether a field is the zero one.
func isZeroField(f api.Field) bool {
	t := f.Type
	return f.Name == "" && !f.Nullable && t.Kind == 0 && t.Width == 0 && t.ID == 0 && t.Index == 0 && len(t.Fields) == 0
}

// isZero tells whether a value is zero in all.
func isZero(v api.Value) bool { return !v.Null && v.Num == 0 && v.Text == "" && len(v.List) == 0 }

// column is a column of the batch.
type column struct {
	name   string
	number int // of the schema over which it was typed
}

func (n *column) bare() api.Expr { return api.Expr{Op: api.OpColumn, Name: n.name} }

func (n *column) wrong() api.Errno { return api.OK }

func (n *column) typed(s api.Schema, _ []api.Field) (api.Field, api.Errno) {
	n.number = kind.Find(s, n.name)
	if n.number < 0 {
		return api.Field{}, api.ErrColumn
	}
	return kind.At(s, []int{n.number})
}

func (n *column) ask(p *part, rows [][]api.Value) []api.Value {
	list := make([]api.Value, len(rows))
	for i, row := range rows {
		list[i] = row[n.number]
	}
	p.mustLie(list)
	return list
}

// literal is one value, whatever the row.
type literal struct {
	field api.Field
	value api.Value
	lies  bool // it is known that it can be laid
}

func (n *literal) bare() api.Expr {
	return api.Expr{Op: api.OpLiteral, Field: copiedField(n.field), Value: copied(n.value)}
}

func (n *literal) wrong() api.Errno { return value.Fits(n.field, n.value) }

func (n *literal) typed(api.Schema, []api.Field) (api.Field, api.Errno) {
	return copiedField(n.field), n.wrong()
}

func (n *literal) ask(p *part, rows [][]api.Value) []api.Value {
	if !n.lies {
		p.mustLie([]api.Value{n.value})
		n.lies = true
	}
	return slices.Repeat([]api.Value{n.value}, len(rows))
}

// casting makes values of another field of its argument's.
type casting struct{ to api.Field }

func (n casting) bare() api.Expr { return api.Expr{Op: api.OpCast, Field: copiedField(n.to)} }

func (n casting) wrong() api.Errno {
	if kind.CheckField(n.to).Err != api.OK {
		return api.ErrType
	}
	return api.OK
}

func (n casting) typed(_ api.Schema, args []api.Field) (api.Field, api.Errno) {
	switch {
	case n.wrong() != api.OK:
		return api.Field{}, n.wrong()
	case len(args) != 1:
		return api.Field{}, api.ErrArgs
	case !cast.Can(args[0], n.to):
		return api.Field{}, api.ErrCast
	}
	return copiedField(n.to), api.OK
}

func (n casting) ask(p *part, rows [][]api.Value) []api.Value {
	return p.work(rows, func(l []api.Field, d []api.Data) (api.Data, api.Errno, int) {
		return cast.Cast(l[0], d[0], n.to, false)
	})
}

// reckoning is an operation of calc, which asks all its arguments.
type reckoning struct{ op int }

func (n reckoning) bare() api.Expr { return api.Expr{Op: n.op} }

func (n reckoning) wrong() api.Errno { return api.OK }

func (n reckoning) typed(_ api.Schema, args []api.Field) (api.Field, api.Errno) {
	f, e := calc.Type(n.op, args)
	if e != api.OK {
		return api.Field{}, api.ErrArgs
	}
	return f, api.OK
}

func (n reckoning) ask(p *part, rows [][]api.Value) []api.Value {
	return p.work(rows, func(l []api.Field, d []api.Data) (api.Data, api.Errno, int) {
		return calc.Do(n.op, l, d)
	})
}

// copiedField tells a field in memory of its own; of one that may not be the zero one.
func copiedField(f api.Field) api.Field {
	f, _ = kind.At(api.Schema{Fields: []api.Field{f}}, []int{0})
	return f
}

// copied tells a value that fits a field in memory of its own.
func copied(v api.Value) api.Value {
	v.List = slices.Clone(v.List)
	for i, x := range v.List {
		v.List[i] = copied(x)
	}
	return v
}
