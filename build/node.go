package build

import "colonnade/api"

// weightOfOne is what a value weighs beside its text and its list.
const weightOfOne = 16

// refusal is what an array that can't take in a value gives up with.
type refusal struct {
	err api.Errno
}

// refuse gives up.
func refuse(e api.Errno) { panic(refusal{e}) }

// node is an array in the making: what all kinds have in common, and a maker of its own kind behind it.
type node struct {
	nullable bool
	how      maker
	trail    *trail
	seen     int    // the last value of which something was laid here
	valid    []bool // of each row whether it isn't null
	weight   int
}

// maker lays what is peculiar to the rows of one kind of array.
type maker interface {
	// lay lays a row, null or not, and tells its weight.
	lay(v api.Value) int
	// zero lays a row that is the zero value of a field that isn't Nullable, and tells its weight. It is not lay of such a value, as that may be too heavy to be made.
	zero() int
	// keep tells how all that is laid from now on is taken back.
	keep() func()
	// data tells the array; valid has whether each row isn't null.
	data(valid []bool) api.Data
}

// newNode begins an array of a field that may be.
func newNode(f api.Field, t *trail) *node {
	return &node{nullable: f.Nullable, how: newMaker(f.Type, t), trail: t}
}

// newNodes begins an array of each field.
func newNodes(fields []api.Field, t *trail) []*node {
	list := make([]*node, len(fields))
	for k, f := range fields {
		list[k] = newNode(f, t)
	}
	return list
}

// newMaker begins what is peculiar to a type.
func newMaker(t api.Type, trail *trail) maker {
	within := newNodes(t.Fields, trail)
	switch t.Kind {
	case api.Null:
		return &nulls{}
	case api.Bool:
		return &flags{}
	case api.Text, api.Bytes:
		return &texts{offsets: []int{0}}
	case api.Fixed:
		return &fixed{width: t.Width}
	case api.List:
		return &lists{offsets: []int{0}, items: within[0]}
	case api.Span:
		return &spans{width: t.Width, items: within[0]}
	case api.Struct:
		return &structs{children: within}
	case api.Choice:
		return &choices{children: within}
	case api.Dict:
		return newIndices(t, within[0])
	case api.Runs:
		return &runs{child: t.Fields[0], values: within[0]}
	}
	return newNumbers(t)
}

// take takes in a value that fits, and tells its weight.
func (n *node) take(v api.Value) int {
	return n.row(!v.Null, func() int { return n.how.lay(v) })
}

// zero takes in the zero value of the node's field.
func (n *node) zero() int {
	if n.nullable {
		return n.take(api.Value{Null: true})
	}
	return n.row(true, n.how.zero)
}

// row lays one more row, and tells its weight.
func (n *node) row(valid bool, lay func() int) int {
	if n.rows() == api.MaxRows {
		refuse(api.ErrRows)
	}
	n.trail.enter(n)
	n.valid = append(n.valid, valid)
	w := lay()
	n.weight += w
	if n.weight > api.MaxWeight {
		refuse(api.ErrRows)
	}
	return w
}

// rows tells how many rows there are.
func (n *node) rows() int { return len(n.valid) }

// data tells the array that was made.
func (n *node) data() api.Data { return n.how.data(n.valid) }

// dataOf tells the arrays of nodes.
func dataOf(nodes []*node) []api.Data {
	list := make([]api.Data, len(nodes))
	for k, n := range nodes {
		list[k] = n.data()
	}
	return list
}
