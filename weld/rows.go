package weld

import (
	"iter"

	"colonnade/api"
	"colonnade/array"
)

// part is a batch that is looked into where it lies.
type part struct {
	rows    int
	columns []*array.Array
}

// row is a row of a part. Its values are read when they are asked for: so never more than one is made ahead of being laid, however heavy all of a row's, or of a batch's, are together.
type row struct {
	columns []*array.Array
	number  int
}

// value tells the row's value in a column.
func (r row) value(k int) api.Value {
	v, _ := r.columns[k].Get(r.number)
	return v
}

// all gives the rows of a part.
func (p part) all() iter.Seq[row] {
	return func(yield func(row) bool) {
		for i := range p.rows {
			if !yield(row{p.columns, i}) {
				return
			}
		}
	}
}

// joined gives the rows of several parts as those of one.
func joined(parts []part) iter.Seq[row] {
	return func(yield func(row) bool) {
		for _, p := range parts {
			for r := range p.all() {
				if !yield(r) {
					return
				}
			}
		}
	}
}

// rowsOf tells how many rows several parts have.
func rowsOf(parts []part) int {
	n := 0
	for _, p := range parts {
		n += p.rows
	}
	return n
}
