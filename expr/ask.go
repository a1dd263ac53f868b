package expr

import (
	"colonnade/api"
	"colonnade/array"
	"colonnade/build"
)

// atOnce is how many rows are asked for at once at most: so what is held is bounded, however deep the expression.
const atOnce = 64

// ask tells what the part makes of each of some rows, one at least; it gives up where a node refuses one. (Of one row alone it is the first node that refuses it that gives up.)
func (p *part) ask(rows [][]api.Value) []api.Value { return p.node.ask(p, rows) }

// mustLie gives up, if one of some values of the part's field can't be laid alone.
func (p *part) mustLie(list []api.Value) {
	p.pieces(len(list), func(from, to int) api.Errno {
		_, e, _ := build.Of(p.field, list[from:to])
		return e
	})
}

// work tells what comes out of the arguments at some rows.
func (p *part) work(rows [][]api.Value, do func([]api.Field, []api.Data) (api.Data, api.Errno, int)) []api.Value {
	fields, columns := p.fields(), make([][]api.Value, len(p.args))
	for k, a := range p.args {
		columns[k] = a.ask(rows)
	}
	var list []api.Value
	p.pieces(len(rows), func(from, to int) api.Errno {
		args := make([]api.Data, len(columns))
		for k, c := range columns {
			d, e, _ := build.Of(fields[k], c[from:to])
			if e != api.OK {
				return e
			}
			args[k] = d
		}
		d, e, _ := do(fields, args)
		if e != api.OK {
			return e
		}
		a, _ := array.Open(p.field, d)
		list = append(list, a.Values()...)
		return api.OK
	})
	return list
}

// pieces does something with so many rows, one at least, from one number up to ahead of another: with all at once, or, where that is refused, with fewer, as what can't be laid together may be laid apart. What is refused with one row alone, the node refuses.
func (p *part) pieces(n int, do func(from, to int) api.Errno) {
	for from, size := 0, n; from < n; {
		to := min(from+size, n)
		e := do(from, to)
		switch {
		case e == api.OK:
			from = to
		case to-from == 1:
			p.refuse(e)
		default:
			size = (to - from) / 2
		}
	}
}

// settle puts a literal in the place of each node, from within, that hangs on no column and refuses nothing; it tells whether the part hangs on none.
func (p *part) settle() bool {
	fixed := true
	for _, a := range p.args {
		fixed = a.settle() && fixed
	}
	switch p.node.(type) {
	case *column:
		return false
	case *literal:
		return true
	}
	if !fixed {
		return false
	}
	// What hangs on no column asks nothing of the row.
	list, x := p.asked([][]api.Value{nil})
	if x.Err == api.OK {
		p.node, p.args = &literal{field: p.field, value: list[0], lies: true}, nil
	}
	return true
}

// asked is ask, but tells the fault of the node that gave up.
func (p *part) asked(rows [][]api.Value) (list []api.Value, x api.Fault) {
	x = caught(func() { list = p.ask(rows) })
	return list, x
}

// over tells what the part makes of all rows of a batch.
func (p *part) over(rows [][]api.Value) (api.Data, api.Fault) {
	b, _ := build.New(p.field)
	e := api.OK
	for at := 0; at < len(rows); at += atOnce {
		list, x := p.some(rows[at:min(at+atOnce, len(rows))])
		if x.Err != api.OK {
			x.At += at
			return api.Data{}, x
		}
		// Behind a row that can't be laid others may still be refused, which is told ahead of that.
		for i := 0; i < len(list) && e == api.OK; i++ {
			e = b.Add(list[i])
		}
	}
	if e != api.OK {
		return api.Data{}, api.Fault{Err: e, At: b.Len()}
	}
	d, _ := b.Done()
	return d, api.Fault{}
}

// some tells what the part makes of some rows, or the fault of the first one that is refused.
func (p *part) some(rows [][]api.Value) ([]api.Value, api.Fault) {
	list, x := p.asked(rows)
	if x.Err == api.OK {
		return list, x
	}
	// Some node has refused some row. Which one is the first, the rows tell one by one.
	for i := range rows {
		if _, x := p.asked(rows[i : i+1]); x.Err != api.OK {
			x.At = i
			return nil, x
		}
	}
	return nil, x
}
