package build

import (
	"colonnade/api"
	"colonnade/array"
	"colonnade/kind"
)

// Batch makes a batch of rows; of an error the number of the row with which it can't be.
func Batch(s api.Schema, rows [][]api.Value) (api.Batch, api.Errno, int) {
	if kind.Check(s).Err != api.OK {
		return api.Batch{}, api.ErrType, 0
	}
	columns := builders(s)
	for i, row := range rows {
		if e := addRow(columns, i, row); e != api.OK {
			return api.Batch{}, e, i
		}
	}
	b := api.Batch{Rows: len(rows)}
	for _, c := range columns {
		d, _ := c.Done()
		b.Columns = append(b.Columns, d)
	}
	return b, api.OK, 0
}

// builders begins a column of each field of a schema that may be.
func builders(s api.Schema) []*Builder {
	list := make([]*Builder, len(s.Fields))
	for k, f := range s.Fields {
		list[k], _ = New(f)
	}
	return list
}

// addRow lays a row's values, each in its column, behind so many rows.
func addRow(columns []*Builder, ahead int, row []api.Value) api.Errno {
	if ahead >= api.MaxRows {
		return api.ErrRows
	}
	if len(row) != len(columns) {
		return api.ErrColumns
	}
	for k, v := range row {
		if e := columns[k].add(v); e != api.OK {
			return e
		}
	}
	return api.OK
}

// Rows tells the rows of a batch.
func Rows(s api.Schema, b api.Batch) ([][]api.Value, api.Errno) {
	if kind.Check(s).Err != api.OK {
		return nil, api.ErrType
	}
	if !hasColumns(s, b) {
		return nil, api.ErrColumns
	}
	columns, e := opened(s, b)
	if e != api.OK {
		return nil, e
	}
	lists, e := valuesOf(columns)
	if e != api.OK {
		return nil, e
	}
	rows := make([][]api.Value, b.Rows)
	for i := range rows {
		rows[i] = make([]api.Value, len(lists))
		for k, l := range lists {
			rows[i][k] = l[i]
		}
	}
	return rows, api.OK
}

// hasColumns tells whether a batch has as many columns, of as many rows, as it must have.
func hasColumns(s api.Schema, b api.Batch) bool {
	if b.Rows < 0 || b.Rows > api.MaxRows || len(b.Columns) != len(s.Fields) {
		return false
	}
	for _, d := range b.Columns {
		if d.Length != b.Rows {
			return false
		}
	}
	return true
}

// opened looks into each column.
func opened(s api.Schema, b api.Batch) ([]*array.Array, api.Errno) {
	list := make([]*array.Array, len(b.Columns))
	for k, d := range b.Columns {
		a, x := array.Open(s.Fields[k], d)
		if x.Err != api.OK {
			return nil, x.Err
		}
		list[k] = a
	}
	return list, api.OK
}

// valuesOf tells each column's values, if they are not too heavy together. (One column's never are: so hardly more is made than is told.)
func valuesOf(columns []*array.Array) ([][]api.Value, api.Errno) {
	lists, w := make([][]api.Value, len(columns)), 0
	for k, a := range columns {
		lists[k] = a.Values()
		w += weight(lists[k])
		if w > api.MaxWeight {
			return nil, api.ErrRows
		}
	}
	return lists, api.OK
}

// weight tells the weight of a list of values.
func weight(list []api.Value) int {
	w := 0
	for _, v := range list {
		w += weightOfOne + len(v.Text) + weight(v.List)
	}
	return w
}
