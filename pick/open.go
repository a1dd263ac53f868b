package pick

import (
	"colonnade/api"
	"colonnade/array"
	"colonnade/kind"
)

// nullable is the field of the arrays that name rows, by numbers or as a mask.
func nullable(k int) api.Field {
	return api.Field{Name: "by", Nullable: true, Type: api.Type{Kind: k}}
}

// opened looks into an array.
func opened(f api.Field, d api.Data) (*array.Array, api.Errno) {
	a, x := array.Open(f, d)
	return a, x.Err
}

// openedColumns looks into the columns of a batch. (build.Rows can't be asked instead: it also refuses columns that are too heavy together, by the very error of one that is too heavy by itself.)
func openedColumns(s api.Schema, b api.Batch) ([]*array.Array, api.Errno) {
	if kind.Check(s).Err != api.OK {
		return nil, api.ErrType
	}
	if !hasColumns(s, b) {
		return nil, api.ErrColumns
	}
	list := make([]*array.Array, len(b.Columns))
	for k, d := range b.Columns {
		a, e := opened(s.Fields[k], d)
		if e != api.OK {
			return nil, e
		}
		list[k] = a
	}
	return list, api.OK
}

// hasColumns tells whether a batch has as many columns, of as many rows, as it must have.
func hasColumns(s api.Schema, b api.Batch) bool {
	if b.Rows < 0 || b.Rows > api.MaxRows || len(b.Columns) != len(s.Fields) {
		return false
	}
	for _, d := range b.Columns {
		if d.Length != b.Rows {
			return false
		}
	}
	return true
}

// letsNulls tells whether each of some fields that may be lets a null: just if it is Nullable, as a Choice never is, and a Runs as its child is.
func letsNulls(fields ...api.Field) bool {
	for _, f := range fields {
		if !f.Nullable {
			return false
		}
	}
	return true
}
