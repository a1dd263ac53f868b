package batch

import (
	"sort"

	"colonnade/api"
	"colonnade/kind"
	"colonnade/view"
)

// lying is an array of its field as it lies. Its rows are numbered from 0 on, its Offset beside.
type lying struct {
	field api.Field
	data  api.Data
	width int // of a row in the buffer of values
}

// lies looks at an array that was checked.
func lies(p part) *lying {
	return &lying{field: p.field, data: *p.data, width: kind.Width(p.field.Type)}
}

// kind tells the kind of its field.
func (a *lying) kind() int { return a.field.Type.Kind }

// masked tells whether the first buffer is a validity.
func (a *lying) masked() bool {
	k := a.kind()
	return k != api.Null && k != api.Choice && k != api.Runs
}

// isNull tells whether a row is null by its own array. (Of Choice and Runs none is.)
func (a *lying) isNull(row int) bool {
	if !a.masked() {
		return a.kind() == api.Null
	}
	return len(a.data.Buffers[0]) > 0 && !a.bit(0, row)
}

// bit tells a row's bit of a buffer.
func (a *lying) bit(buffer, row int) bool {
	r := a.data.Offset + row
	return a.data.Buffers[buffer][r/8]>>(r%8)&1 == 1
}

// number tells a row's number of a buffer. Of all that are asked for none is below 0 in an array that was checked, so that no sign counts.
func (a *lying) number(buffer, row, width int) int {
	x, _ := view.Of(a.data.Buffers[buffer]).Load((a.data.Offset+row)*width, width)
	return int(x)
}

// bytes tells the bytes of a row in the buffer of values.
func (a *lying) bytes(row int) []byte {
	r := (a.data.Offset + row) * a.width
	return a.data.Buffers[1][r : r+a.width]
}

// bounds tells where a row begins and where it ends: of a text among the bytes, of others among the items.
func (a *lying) bounds(row int) (from, to int) {
	if a.kind() == api.Span {
		w := a.field.Type.Width
		from = (a.data.Offset + row) * w
		return from, from + w
	}
	return a.number(1, row, 4), a.number(1, row+1, 4)
}

// named tells which child a row of a Choice names, and which of its rows.
func (a *lying) named(row int) (child, own int) {
	return a.number(0, row, 1), a.number(1, row, 4)
}

// index tells which row of the dictionary a row of a Dict names.
func (a *lying) index(row int) int { return a.number(1, row, a.width) }

// run tells in which run a row of a Runs lies.
func (a *lying) run(row int) int {
	ends := &lying{data: a.data.Children[0]}
	return sort.Search(ends.data.Length, func(k int) bool {
		return ends.number(1, k, 4) > a.data.Offset+row
	})
}
