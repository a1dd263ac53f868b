package batch

import (
	"slices"

	"colonnade/api"
)

// tight makes the tight form of all rows of an array that was checked, or tells what keeps it from being laid. A dictionary stays as it was handed in.
func tight(f api.Field, d api.Data) (api.Data, api.Errno) {
	asked := [][]int{upTo(d.Length)} // the rows that are asked for of the arrays to come, of the next one last
	weigh := scales()
	x := through(part{field: f, data: &d}, func(p part) api.Fault {
		last := len(asked) - 1
		rows := asked[last]
		if len(rows) > api.MaxRows {
			return api.Fault{Err: api.ErrRows}
		}
		parts, e := tighten(p, rows)
		// The first part comes next.
		slices.Reverse(parts)
		asked = append(asked[:last], parts...)
		return api.Fault{Err: e}
	}, func(p part) api.Fault {
		if sum(weigh(p)) > api.MaxWeight {
			return api.Fault{Err: api.ErrRows}
		}
		return api.Fault{}
	})
	if x.Err != api.OK {
		return api.Data{}, x.Err
	}
	return d, api.OK
}

// tighten brings some rows of an array into tight form, all but its parts, and tells which rows of these are asked for.
func tighten(p part, rows []int) ([][]int, api.Errno) {
	a := lies(p)
	d := api.Data{Length: len(rows), Children: slices.Clone(p.data.Children), Dict: p.data.Dict}
	if a.masked() {
		d.Buffers = [][]byte{nil}
	}
	for _, row := range rows {
		if a.isNull(row) {
			d.Nulls++
		}
	}
	if a.masked() && d.Nulls > 0 {
		d.Buffers[0] = bitsOf(rows, func(row int) bool { return !a.isNull(row) })
	}
	var parts [][]int
	switch a.kind() {
	case api.Null:
	case api.List, api.Span, api.Struct, api.Choice, api.Runs:
		parts = a.nest(&d, rows)
	default:
		d.Buffers = append(d.Buffers, a.plain(rows)...)
	}
	*p.data = d
	for _, b := range d.Buffers {
		if len(b) > api.MaxBytes {
			return nil, api.ErrBytes
		}
	}
	return parts, api.OK
}

// bitsOf lays a bit a row, and 0 behind the last one.
func bitsOf(rows []int, on func(row int) bool) []byte {
	b := make([]byte, (len(rows)+7)/8)
	for i, row := range rows {
		if on(row) {
			b[i/8] |= 1 << (i % 8)
		}
	}
	return b
}

// plain lays the buffers behind the validity of an array without parts.
func (a *lying) plain(rows []int) [][]byte {
	switch a.kind() {
	case api.Bool:
		return [][]byte{bitsOf(rows, func(row int) bool { return !a.isNull(row) && a.bit(1, row) })}
	case api.Text, api.Bytes:
		return a.texts(rows)
	}
	b := make([]byte, len(rows)*a.width)
	for i, row := range rows {
		if !a.isNull(row) {
			copy(b[i*a.width:], a.bytes(row))
		}
	}
	return [][]byte{b}
}

// texts lays the offsets and the bytes of texts; no more rows, once there are more bytes than may be.
func (a *lying) texts(rows []int) [][]byte {
	var b []byte
	offsets := number(nil, 0)
	for _, row := range rows {
		if !a.isNull(row) && len(b) <= api.MaxBytes {
			from, to := a.bounds(row)
			b = append(b, a.data.Buffers[2][from:to]...)
		}
		offsets = number(offsets, len(b))
	}
	return [][]byte{offsets, b}
}

// number lays a number of four bytes behind others, the lowest byte first.
func number(b []byte, x int) []byte {
	return append(b, byte(x), byte(x>>8), byte(x>>16), byte(x>>24))
}

// nest lays the buffers behind the validity of an array with parts, and tells which rows of these are asked for.
func (a *lying) nest(d *api.Data, rows []int) [][]int {
	switch a.kind() {
	case api.List:
		offsets, items := a.items(rows)
		d.Buffers = append(d.Buffers, offsets)
		return [][]int{items}
	case api.Span:
		_, items := a.items(rows)
		return [][]int{items}
	case api.Struct:
		return a.alongside(rows)
	case api.Choice:
		buffers, parts := a.choices(rows)
		d.Buffers = buffers
		return parts
	}
	ends, values := a.runs(rows)
	// The ends are made anew, as those that lie there count other rows.
	d.Children[0] = api.Data{Length: len(values), Buffers: [][]byte{nil, ends}}
	return [][]int{upTo(len(values)), values}
}

// items tells the items of rows, none behind the first one that is too many, and lays the offsets that count them. Null rows have items in a Span alone.
func (a *lying) items(rows []int) (offsets []byte, items []int) {
	offsets = number(nil, 0)
	for _, row := range rows {
		if a.kind() == api.Span || !a.isNull(row) {
			from, to := a.bounds(row)
			for i := from; i < to && len(items) <= api.MaxRows; i++ {
				items = append(items, i)
			}
		}
		offsets = number(offsets, len(items))
	}
	return offsets, items
}

// alongside tells the rows that each child of a Struct has to its rows.
func (a *lying) alongside(rows []int) [][]int {
	own := make([]int, len(rows))
	for i, row := range rows {
		own[i] = a.data.Offset + row
	}
	return slices.Repeat([][]int{own}, len(a.data.Children))
}

// choices lays the codes of rows, and the offsets that count the rows of each child; and tells which these are.
func (a *lying) choices(rows []int) (buffers [][]byte, parts [][]int) {
	parts = make([][]int, len(a.data.Children))
	var codes, offsets []byte
	for _, row := range rows {
		k, own := a.named(row)
		codes = append(codes, byte(k))
		offsets = number(offsets, len(parts[k]))
		parts[k] = append(parts[k], own)
	}
	return [][]byte{codes, offsets}, parts
}

// runs lays the ends of the runs that rows make, and tells which rows of the values they have.
func (a *lying) runs(rows []int) (ends []byte, values []int) {
	for i, row := range rows {
		run := a.run(row)
		if i > 0 && run == values[len(values)-1] {
			ends = ends[:len(ends)-4]
		} else {
			values = append(values, run)
		}
		ends = number(ends, i+1)
	}
	return ends, values
}
