package fold

import (
	"slices"

	"colonnade/api"
	"colonnade/value"
)

// extreme is the value that stands ahead of all others, or behind them, as its sign is below or above 0.
type extreme struct {
	tally
	field api.Field // the bare one, Nullable: by it the values are compared
	sign  int
	best  []api.Value // none or one, but while values are taken in: then all of them that might be it
}

func (x *extreme) take(v api.Value) {
	x.note(v)
	if v.Null {
		return
	}
	// However many rows are named, few wait at a time.
	if len(x.best) == api.MaxRows {
		x.settle()
	}
	x.best = append(x.best, v)
}

// settle lets the best one alone stay.
func (x *extreme) settle() {
	if len(x.best) > 1 {
		x.best = []api.Value{x.among(x.best)}
	}
}

// among tells the best one of some values. It is found by halves: so a heavy one is looked at few times, not once for each of the others.
func (x *extreme) among(l []api.Value) api.Value {
	if len(l) == 1 {
		return l[0]
	}
	half := len(l) / 2
	a, b := x.among(l[:half]), x.among(l[half:])
	if c, _ := value.Compare(x.field, b, a); c == x.sign {
		return b
	}
	return a
}

func (x *extreme) merge(o summary) {
	p := o.(*extreme)
	x.join(p.tally)
	x.best = append(x.best, p.best...)
	x.settle()
}

func (x *extreme) value() (api.Value, api.Errno) {
	if len(x.best) == 0 {
		return api.Value{Null: true}, api.OK
	}
	return copied(x.best[0]), api.OK
}

func (x *extreme) copy() summary {
	y := *x
	y.field, y.best = bare(x.field), copiedAll(x.best) // a bare field's bare field is its copy
	return &y
}

// first is the first value.
type first struct {
	tally
	v api.Value
}

func (x *first) take(v api.Value) {
	if x.taken() == 0 {
		x.v = v
	}
	x.note(v)
}

func (x *first) merge(o summary) {
	p := o.(*first)
	if x.taken() == 0 {
		x.v = p.v
	}
	x.join(p.tally)
}

func (x *first) value() (api.Value, api.Errno) { return x.one(x.v), api.OK }

func (x *first) copy() summary {
	y := *x
	y.v = copied(x.v)
	return &y
}

// last is the last value.
type last struct {
	tally
	v api.Value
}

func (x *last) take(v api.Value) {
	x.v = v
	x.note(v)
}

func (x *last) merge(o summary) {
	p := o.(*last)
	if p.taken() > 0 {
		x.v = p.v
	}
	x.join(p.tally)
}

func (x *last) value() (api.Value, api.Errno) { return x.one(x.v), api.OK }

func (x *last) copy() summary {
	y := *x
	y.v = copied(x.v)
	return &y
}

// one tells one of the values, in memory of its own; null, if there are none.
func (t *tally) one(v api.Value) api.Value {
	if t.taken() == 0 {
		return api.Value{Null: true}
	}
	return copied(v)
}

// copied tells a value in memory of its own.
func copied(v api.Value) api.Value {
	v.List = copiedAll(v.List)
	return v
}

// copiedAll tells values in memory of their own.
func copiedAll(l []api.Value) []api.Value {
	l = slices.Clone(l)
	for i, v := range l {
		l[i] = copied(v)
	}
	return l
}
