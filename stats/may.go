package stats

import (
	"colonnade/api"
	"colonnade/array"
	"colonnade/build"
	"colonnade/calc"
	"colonnade/kind"
)

// outcomes is a set of what a Bool expression may come to, at rows of which so much is known.
type outcomes uint8

const (
	isFalse outcomes = 1 << iota
	isTrue
	isNull

	isEither = isFalse | isTrue
	isAny    = isEither | isNull
)

// outcomeOf tells the set of one value of Bool.
func outcomeOf(v api.Value) outcomes {
	switch {
	case v.Null:
		return isNull
	case v.Num == 1:
		return isTrue
	}
	return isFalse
}

// each joins what comes of each outcome, which is told as a literal.
func (o outcomes) each(do func(x api.Expr) outcomes) outcomes {
	var all outcomes
	for _, v := range []api.Value{{}, {Num: 1}, {Null: true}} {
		if o&outcomeOf(v) != 0 {
			f := api.Field{Name: "outcome", Nullable: true, Type: api.Type{Kind: api.Bool}}
			all |= do(api.Expr{Op: api.OpLiteral, Field: f, Value: v})
		}
	}
	return all
}

// made tells what calc makes of literals that it takes.
func made(op int, literals ...api.Expr) outcomes {
	var fields []api.Field
	var data []api.Data
	for _, e := range literals {
		fields, data = append(fields, e.Field), append(data, built(e))
	}
	d, e, _ := calc.Do(op, fields, data)
	f, _ := calc.Type(op, fields)
	a, x := array.Open(f, d)
	if e != api.OK || x.Err != api.OK {
		giveUp()
	}
	v, _ := a.Get(0)
	return outcomeOf(v)
}

// built tells the array of a literal's value, or gives up, if it can't be built.
func built(e api.Expr) api.Data {
	d, err, _ := build.Of(e.Field, []api.Value{e.Value})
	if err != api.OK {
		giveUp()
	}
	return d
}

// known is what is known of each column of a schema.
type known struct {
	schema api.Schema
	stats  []api.Stat
}

// number tells the number of a column that the schema has.
func (k known) number(e api.Expr) int { return kind.Find(k.schema, e.Name) }

// may tells whether an expression, whose plain kind is Bool, may be true at one of the rows, of which there are some.
func (k known) may(e api.Expr) bool {
	var o outcomes
	if !ends(func() { k.sift(e); o = k.outcomes(e) }) {
		// A row might be refused, and whoever goes through the rows is to hear of that.
		return true
	}
	return o&isTrue != 0
}

// sift gives up, if an expression has a node that may refuse a row, or of which nothing is known.
func (k known) sift(e api.Expr) {
	switch e.Op {
	case api.OpColumn:
		if !hasBounds(plainKind(k.schema.Fields[k.number(e)])) {
			giveUp()
		}
	case api.OpLiteral:
		built(e)
	case api.OpEq, api.OpNe, api.OpLt, api.OpLe, api.OpGt, api.OpGe, api.OpAnd, api.OpOr, api.OpNot, api.OpIsNull:
		for _, a := range e.Args {
			k.sift(a)
		}
	default:
		giveUp()
	}
}

// outcomes tells those of an expression whose plain kind is Bool.
func (k known) outcomes(e api.Expr) outcomes {
	switch e.Op {
	case api.OpLiteral:
		return outcomeOf(e.Value)
	case api.OpColumn:
		// It is what comes of holding it against true.
		return k.compared(api.OpEq, e, api.Value{Num: 1})
	case api.OpNot:
		return k.outcomes(e.Args[0]).each(func(x api.Expr) outcomes { return made(e.Op, x) })
	case api.OpAnd, api.OpOr:
		second := k.outcomes(e.Args[1])
		return k.outcomes(e.Args[0]).each(func(x api.Expr) outcomes {
			return second.each(func(y api.Expr) outcomes { return made(e.Op, x, y) })
		})
	case api.OpIsNull:
		return k.nulls(e.Args[0])
	}
	return k.comparison(e.Op, e.Args[0], e.Args[1])
}

// nulls tells the outcomes of asking whether an expression is null.
func (k known) nulls(e api.Expr) outcomes {
	switch e.Op {
	case api.OpColumn:
		var o outcomes
		x := k.stats[k.number(e)]
		if x.Nulls > 0 {
			o |= isTrue
		}
		if x.Nulls < x.Rows {
			o |= isFalse
		}
		return o
	case api.OpLiteral:
		if e.Value.Null {
			return isTrue
		}
		return isFalse
	}
	return isAny
}

// comparison tells the outcomes of holding two expressions against each other.
func (k known) comparison(op int, a, b api.Expr) outcomes {
	switch {
	case a.Op == api.OpLiteral && b.Op == api.OpLiteral:
		return made(op, a, b)
	case a.Op == api.OpColumn && b.Op == api.OpLiteral:
		return k.compared(op, a, b.Value)
	case a.Op == api.OpLiteral && b.Op == api.OpColumn:
		return k.compared(turned(op), b, a.Value)
	}
	return isAny
}

// compared tells the outcomes of holding the values of a column against one value.
func (k known) compared(op int, column api.Expr, c api.Value) outcomes {
	if c.Null {
		return isNull
	}
	i := k.number(column)
	x := k.stats[i]
	var o outcomes
	if x.Nulls > 0 {
		o |= isNull
	}
	switch {
	case x.Has:
		order := orderOf(plainKind(k.schema.Fields[i]))
		least, most := order(x.Least, c), order(x.Most, c)
		if allows(op, least, most) {
			o |= isTrue
		}
		if allows(opposite(op), least, most) {
			o |= isFalse
		}
	case x.Nulls < x.Rows:
		o |= isEither
	}
	return o
}
