package weld

import (
	"colonnade/api"
	"colonnade/array"
	"colonnade/kind"
)

// openedTable looks into the batches of a table.
func openedTable(t api.Table) ([]part, api.Errno) {
	if kind.Check(t.Schema).Err != api.OK {
		return nil, api.ErrType
	}
	if len(t.Batches) > api.MaxBatches {
		return nil, api.ErrRange
	}
	return openedBatches(t.Schema.Fields, t.Batches)
}

// openedBatches looks into batches, one by one.
func openedBatches(fields []api.Field, l []api.Batch) ([]part, api.Errno) {
	parts := make([]part, len(l))
	for i, b := range l {
		p, e := openedBatch(fields, b)
		if e != api.OK {
			return nil, e
		}
		parts[i] = p
	}
	return parts, api.OK
}

// openedBatch looks into the columns of a batch.
func openedBatch(fields []api.Field, b api.Batch) (part, api.Errno) {
	if !hasColumns(fields, b) {
		return part{}, api.ErrColumns
	}
	return opened(fields, b)
}

// openedArrays looks into arrays, each as the one column of a batch. No batch's error is told of them: a Length that may not be is for the array's own check.
func openedArrays(fields []api.Field, l []api.Data) ([]part, api.Errno) {
	parts := make([]part, len(l))
	for i, d := range l {
		p, e := opened(fields, api.Batch{Rows: d.Length, Columns: []api.Data{d}})
		if e != api.OK {
			return nil, e
		}
		parts[i] = p
	}
	return parts, api.OK
}

// opened looks into columns, of which there is one a field.
func opened(fields []api.Field, b api.Batch) (part, api.Errno) {
	p := part{rows: b.Rows, columns: make([]*array.Array, len(b.Columns))}
	for k, d := range b.Columns {
		a, x := array.Open(fields[k], d)
		if x.Err != api.OK {
			return part{}, x.Err
		}
		p.columns[k] = a
	}
	return p, api.OK
}

// hasColumns tells whether a batch has as many columns, of as many rows, as it must have.
func hasColumns(fields []api.Field, b api.Batch) bool {
	if b.Rows < 0 || b.Rows > api.MaxRows || len(b.Columns) != len(fields) {
		return false
	}
	for _, d := range b.Columns {
		if d.Length != b.Rows {
			return false
		}
	}
	return true
}
