package scan

import (
	"colonnade/api"
	"colonnade/array"
	"colonnade/build"
	"colonnade/expr"
	"colonnade/pick"
)

// block tells what comes out of a block.
func (s *Scan) block(k int) (api.Batch, api.Errno) {
	b, x := s.file.Some(k, s.reads)
	if x.Err != api.OK {
		return api.Batch{}, x.Err
	}
	if !s.filters() {
		return s.laid(b, b.Rows, build.Form)
	}
	mask, x := expr.Eval(s.within, b, s.filter)
	if x.Err != api.OK {
		return api.Batch{}, x.Err
	}
	return s.laid(b, trueRows(mask), func(f api.Field, d api.Data) (api.Data, api.Errno) {
		return pick.Filter(f, d, mask)
	})
}

// laid tells the columns that are asked for, of so many rows, each as lay makes it out of what was read.
func (s *Scan) laid(b api.Batch, rows int, lay func(api.Field, api.Data) (api.Data, api.Errno)) (api.Batch, api.Errno) {
	out := api.Batch{Rows: rows}
	for _, k := range s.places {
		d, e := lay(s.within.Fields[k], b.Columns[k])
		if e != api.OK {
			return api.Batch{}, e
		}
		out.Columns = append(out.Columns, d)
	}
	return out, api.OK
}

// trueRows tells at how many rows a mask is true.
func trueRows(mask api.Data) int {
	a, _ := array.Open(api.Field{Name: "mask", Nullable: true, Type: api.Type{Kind: api.Bool}}, mask)
	n := 0
	for _, v := range a.Values() {
		if !v.Null && v.Num == 1 {
			n++
		}
	}
	return n
}
