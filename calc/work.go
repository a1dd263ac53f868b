package calc

import (
	"slices"

	"colonnade/api"
)

// row tells what comes out of a row of values, one an argument, or why it can't be done.
type row func(v []api.Value) (api.Value, api.Errno)

// work is what an operation does with the rows of its arguments.
type work struct {
	nulls bool // it is asked of nulls too; else where one is null what comes out is null
	row   row
}

// workOf tells what an operation does, with arguments that it takes; t is the plain type of the first one.
func workOf(op int, t api.Type) work {
	switch op {
	case api.OpAdd, api.OpSub, api.OpMul, api.OpDiv, api.OpRem, api.OpNeg:
		return work{row: reckoning(op, t.Kind)}
	case api.OpEq, api.OpNe, api.OpLt, api.OpLe, api.OpGt, api.OpGe:
		return work{row: comparing(op, t)}
	case api.OpAnd:
		return work{nulls: true, row: sure(and)}
	case api.OpOr:
		return work{nulls: true, row: sure(or)}
	case api.OpNot:
		return work{row: sure(not)}
	case api.OpIsNull:
		return work{nulls: true, row: sure(isNull)}
	case api.OpElse:
		return work{nulls: true, row: sure(firstOrElse)}
	case api.OpIf:
		return work{nulls: true, row: sure(chosen)}
	case api.OpGlue:
		return work{row: sure(glued)}
	case api.OpLen:
		return work{row: sure(length)}
	case api.OpBegins:
		return work{row: sure(begins)}
	}
	return work{row: sure(holds)}
}

// sure is what can be done with each row.
func sure(do func(v []api.Value) api.Value) row {
	return func(v []api.Value) (api.Value, api.Errno) { return do(v), api.OK }
}

// each does the work with all rows of columns that are of one length, at least one column; of an error the row's number.
func (w work) each(columns [][]api.Value) ([]api.Value, api.Errno, int) {
	list := make([]api.Value, len(columns[0]))
	args := make([]api.Value, len(columns))
	for i := range list {
		for k, c := range columns {
			args[k] = c[i]
		}
		v, e := w.one(args)
		if e != api.OK {
			return nil, e, i
		}
		list[i] = v
	}
	return list, api.OK, 0
}

// one does the work with one row.
func (w work) one(v []api.Value) (api.Value, api.Errno) {
	if !w.nulls && slices.ContainsFunc(v, func(x api.Value) bool { return x.Null }) {
		return api.Value{Null: true}, api.OK
	}
	return w.row(v)
}
