package array

import (
	"slices"

	"colonnade/api"
	"colonnade/bits"
	"colonnade/kind"
	"colonnade/view"
)

// opened looks at all of an array: what keeps it from being one of a field, or else the node by which it is looked into.
func opened(f api.Field, d api.Data) (n *node, x api.Fault) {
	if kind.CheckField(f).Err != api.OK {
		return nil, api.Fault{Err: api.ErrType}
	}
	defer func() {
		switch p := recover().(type) {
		case nil:
		case api.Fault:
			n, x = nil, p
		default:
			panic(p)
		}
	}()
	n = bare(copied(f), d)
	new(check).node(n, d)
	return n, api.Fault{}
}

// check goes through an array and its parts, and gives up by panic at the first fault.
type check struct {
	look look  // that nobody watches
	way  []int // the numbers of the parts that lead to where it stands
}

// must gives up, if there is an error.
func (c *check) must(e api.Errno, at int) {
	if e != api.OK {
		panic(api.Fault{Err: e, Path: slices.Clone(c.way), At: at})
	}
}

// node fills in a bare node, and tells the weights of its rows. Each step leans on those ahead of it.
func (c *check) node(n *node, d api.Data) []int {
	c.must(wrongShape(n.field.Type, d), 0)
	c.must(wrongNumbers(n), 0)
	c.must(tooManyBytes(d.Buffers))
	c.fill(n, d)
	c.must(tooSmall(n))
	c.must(wrongNulls(n, d), 1)
	c.must(n.how.wrong(&c.look, n))
	within := c.parts(n, d)
	c.must(n.how.wrongBehind(&c.look, n))
	weights := weightsOf(&c.look, n, within)
	if sum(weights) > api.MaxWeight {
		c.must(api.ErrRows, 1)
	}
	return weights
}

// fill gives a node its buffers and its parts, bare ones.
func (c *check) fill(n *node, d api.Data) {
	for _, b := range d.Buffers {
		n.buffers = append(n.buffers, view.Of(b))
	}
	fields := partFields(n.field.Type)
	for k, p := range partData(d) {
		n.parts = append(n.parts, bare(fields[k], p))
	}
}

// parts goes through the parts, and tells the weights of their rows.
func (c *check) parts(n *node, d api.Data) [][]int {
	within := make([][]int, len(n.parts))
	for k, p := range partData(d) {
		c.way = append(c.way, k)
		within[k] = c.node(n.parts[k], p)
		c.way = c.way[:len(c.way)-1]
	}
	return within
}

// wrongShape tells whether an array has another number of lists than its type has.
func wrongShape(t api.Type, d api.Data) api.Errno {
	buffers, children, dicts := kind.Shape(t)
	if len(d.Buffers) != buffers || len(d.Children) != children || len(d.Dict) != dicts {
		return api.ErrShape
	}
	return api.OK
}

// wrongNumbers tells what is wrong with a node's numbers, whatever its bytes are.
func wrongNumbers(n *node) api.Errno {
	if n.length < 0 || n.offset < 0 || n.nulls < 0 || n.nulls > n.length {
		return api.ErrLength
	}
	if end, ok := view.Sum(n.length, n.offset); !ok || end > api.MaxRows {
		return api.ErrRows
	}
	return api.OK
}

// tooManyBytes tells the first buffer that has more bytes than may be.
func tooManyBytes(buffers [][]byte) (api.Errno, int) {
	for k, b := range buffers {
		if len(b) > api.MaxBytes {
			return api.ErrBytes, k
		}
	}
	return api.OK, 0
}

// tooSmall tells the first buffer that has too few bytes; or, counted behind them all, the first part that has too few rows.
func tooSmall(n *node) (api.Errno, int) {
	needs, rows := n.how.needs(n.end())
	if n.masked() {
		needs = slices.Insert(needs, 0, bits.Need(n.end()))
	}
	for k, b := range n.buffers {
		none := k == 0 && n.masked() && b.Len() == 0
		if b.Len() < needs[k] && !none {
			return api.ErrSmall, k
		}
	}
	for k, p := range n.parts {
		if p.length < rows {
			return api.ErrSmall, len(n.buffers) + k
		}
	}
	return api.OK, 0
}

// wrongNulls tells whether a node's Nulls is not what its validity says, or may not be.
func wrongNulls(n *node, d api.Data) api.Errno {
	if n.nulls != n.countNulls(d) || n.nulls > 0 && !n.field.Nullable {
		return api.ErrLength
	}
	return api.OK
}

// weightsOf tells the weight of each row of a node, counted from the weights of the parts' rows: no value is made for it.
func weightsOf(l *look, n *node, within [][]int) []int {
	list := make([]int, n.length)
	for own := range list {
		r := n.offset + own
		list[own] = weightOfOne
		if !l.isOff(n, r) {
			list[own] = n.how.weight(l, n, r, within)
		}
	}
	return list
}
