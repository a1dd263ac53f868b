package array

import (
	"slices"

	"colonnade/api"
	"colonnade/bits"
	"colonnade/kind"
	"colonnade/view"
)

// node is an array, or a part of one, as it was handed in: the very bytes of the buffers, and copies of what stands around them.
type node struct {
	field                 api.Field
	how                   family
	length, offset, nulls int
	buffers               []view.View
	parts                 []*node
}

// bare is a node of which nothing was looked at: it has neither buffers nor parts yet, as what is there need not be of its field.
func bare(f api.Field, d api.Data) *node {
	return &node{field: f, how: familyOf(f.Type), length: d.Length, offset: d.Offset, nulls: d.Nulls}
}

// kind tells the kind of the node's field.
func (n *node) kind() int { return n.field.Type.Kind }

// end tells the number behind the last row, Offset counted.
func (n *node) end() int { return n.offset + n.length }

// masked tells whether the first buffer is a validity.
func (n *node) masked() bool {
	k := n.kind()
	return k != api.Null && k != api.Choice && k != api.Runs
}

// countNulls tells how many rows of an array of the node's field are null by their validity.
func (n *node) countNulls(d api.Data) int {
	switch {
	case n.kind() == api.Null:
		return d.Length
	case !n.masked() || len(d.Buffers[0]) == 0:
		return 0
	}
	on, _ := bits.Count(d.Buffers[0], d.Offset, d.Length)
	return d.Length - on
}

// partFields tells the fields of the parts of a type's arrays.
func partFields(t api.Type) []api.Field {
	if t.Kind == api.Dict {
		return t.Fields
	}
	return kind.Parts(t)
}

// partData tells the parts of an array: it has children or a dictionary, never both.
func partData(d api.Data) []api.Data { return slices.Concat(d.Children, d.Dict) }
