package pick

import (
	"iter"
	"slices"

	"colonnade/api"
	"colonnade/array"
	"colonnade/build"
)

// laidBatch lays the rows of columns that are named, column by column.
func laidBatch(columns []*array.Array, rows []int) (api.Batch, api.Errno) {
	b := api.Batch{Rows: len(rows), Columns: make([]api.Data, len(columns))}
	for k, a := range columns {
		d, e := laid(a, slices.Values(rows))
		if e != api.OK {
			return api.Batch{}, e
		}
		b.Columns[k] = d
	}
	return b, api.OK
}

// laid lays the rows of an array that are named, all of which can be.
func laid(a *array.Array, rows iter.Seq[int]) (api.Data, api.Errno) {
	var list []api.Value
	each(a, rows, func(v api.Value) { list = append(list, v) })
	d, e, _ := build.Of(a.Field(), list)
	return d, e
}

// each does something with each row that is named.
func each(a *array.Array, rows iter.Seq[int], do func(api.Value)) {
	get := reader(a)
	for n := range rows {
		if n == none {
			do(api.Value{Null: true})
		} else {
			do(get(n))
		}
	}
}

// reader tells an array's rows. Each is read once, however often it is named: so no more is made than the array weighs, though what is picked may weigh far more.
func reader(a *array.Array) func(n int) api.Value {
	known := map[int]api.Value{}
	return func(n int) api.Value {
		v, ok := known[n]
		if !ok {
			v, _ = a.Get(n)
			known[n] = v
		}
		return v
	}
}
