package match

import (
	"colonnade/api"
	"colonnade/build"
)

// side is a batch and its schema.
type side struct {
	s api.Schema
	b api.Batch
}

// column tells the values of a column; of none no values.
func (x side) column(k int) []api.Value {
	if k == none {
		return nil
	}
	return valuesOf(x.s, x.b, k)
}

// laid lays a row a pair, in columns of a schema that have such origins.
func laid(out api.Schema, left, right side, origins []origin, pairs [][2]int) (api.Batch, api.Errno) {
	b := api.Batch{Rows: len(pairs), Columns: make([]api.Data, len(origins))}
	refused := api.OK
	for k, o := range origins {
		d, e, at := build.Of(out.Fields[k], o.values(left, right, pairs))
		if e != api.OK {
			// build.Batch goes row by row: a column further on decides just if it is refused at an earlier row.
			refused, pairs = e, pairs[:at]
		}
		b.Columns[k] = d
	}
	if refused != api.OK {
		return api.Batch{}, refused
	}
	return b, api.OK
}

// values tells a value a pair: the left row's, if the column has one and the pair too, else likewise the right row's, else a null.
func (o origin) values(left, right side, pairs [][2]int) []api.Value {
	l, r := left.column(o.left), right.column(o.right)
	list := make([]api.Value, len(pairs))
	for i, p := range pairs {
		switch {
		case o.left != none && p[0] != none:
			list[i] = l[p[0]]
		case o.right != none && p[1] != none:
			list[i] = r[p[1]]
		default:
			list[i] = api.Value{Null: true}
		}
	}
	return list
}
