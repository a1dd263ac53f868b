package fold

import "colonnade/api"

// summary is what an aggregate keeps of the values that it has taken in.
type summary interface {
	taken() int
	take(v api.Value)
	settle()         // behind values that were taken in
	merge(o summary) // of one of the same type and field, that nobody else has
	value() (api.Value, api.Errno)
	copy() summary
}

// summaryOf tells the summary of no values of an operation; out is the field of what it comes to.
func summaryOf(op int, out api.Field) summary {
	switch op {
	case api.AggCount:
		return &count{}
	case api.AggRows:
		return &count{nullsToo: true}
	case api.AggSum:
		return sumOf(out.Type.Kind)
	case api.AggMin:
		return &extreme{field: out, sign: -1}
	case api.AggMax:
		return &extreme{field: out, sign: 1}
	case api.AggFirst:
		return &first{}
	case api.AggLast:
		return &last{}
	case api.AggAny:
		return &verdict{by: 1}
	}
	return &verdict{by: 0}
}

// tally is what all aggregates keep: how many values were taken in, and how many of them are null.
type tally struct {
	rows, nulls int
}

// taken tells how many values were taken in.
func (t *tally) taken() int { return t.rows }

// some tells how many of them are not null.
func (t *tally) some() int { return t.rows - t.nulls }

// settle does nothing: most aggregates are done with a value when they have taken it in.
func (t *tally) settle() {}

// note counts a value.
func (t *tally) note(v api.Value) {
	t.rows++
	if v.Null {
		t.nulls++
	}
}

// join counts what another one has counted.
func (t *tally) join(o tally) {
	t.rows += o.rows
	t.nulls += o.nulls
}

// count is how many values there are, nulls too or not.
type count struct {
	tally
	nullsToo bool
}

func (c *count) take(v api.Value) { c.note(v) }

func (c *count) merge(o summary) { c.join(o.(*count).tally) }

func (c *count) value() (api.Value, api.Errno) {
	n := c.some()
	if c.nullsToo {
		n = c.taken()
	}
	return api.Value{Num: int64(n)}, api.OK
}

func (c *count) copy() summary {
	x := *c
	return &x
}

// verdict is the Bool that decides, if it is among the values; else null, if a null is; else the other Bool.
type verdict struct {
	tally
	by    int64
	found bool
}

func (d *verdict) take(v api.Value) {
	d.note(v)
	d.found = d.found || !v.Null && v.Num == d.by
}

func (d *verdict) merge(o summary) {
	p := o.(*verdict)
	d.join(p.tally)
	d.found = d.found || p.found
}

func (d *verdict) value() (api.Value, api.Errno) {
	switch {
	case d.found:
		return api.Value{Num: d.by}, api.OK
	case d.nulls > 0:
		return api.Value{Null: true}, api.OK
	}
	return api.Value{Num: 1 - d.by}, api.OK
}

func (d *verdict) copy() summary {
	x := *d
	return &x
}
