package batch

import (
	"slices"

	"colonnade/api"
	"colonnade/kind"
)

// part is an array that is gone through, with its field and the way of child numbers that leads to it.
type part struct {
	field api.Field
	data  *api.Data
	way   []int
}

// through goes through an array and those within it, but for dictionaries, in the laying order, till something tells a fault. What is done ahead of an array's parts may write into it; what is done behind them may be nil. An array that has no parts yet is given blank ones.
func through(p part, ahead, behind func(part) api.Fault) api.Fault {
	if x := ahead(p); x.Err != api.OK {
		return x
	}
	fields := kind.Parts(p.field.Type)
	if len(p.data.Children) != len(fields) {
		p.data.Children = make([]api.Data, len(fields))
	}
	for k, f := range fields {
		q := part{field: f, data: &p.data.Children[k], way: append(slices.Clip(p.way), k)}
		if x := through(q, ahead, behind); x.Err != api.OK {
			return x
		}
	}
	if behind == nil {
		return api.Fault{}
	}
	return behind(p)
}

// count tells how many nodes and slots an array of a field is laid with.
func count(f api.Field) (nodes, slots int) {
	through(part{field: f, data: &api.Data{}}, func(p part) api.Fault {
		buffers, _, _ := kind.Shape(p.field.Type)
		nodes++
		slots += buffers
		return api.Fault{}
	}, nil)
	return nodes, slots
}
