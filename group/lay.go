package group

import (
	"colonnade/api"
	"colonnade/build"
	"colonnade/fold"
	"colonnade/kind"
	"colonnade/pick"
)

// outcome tells the schema of what comes out: the columns by which is grouped, and the aggregates.
func outcome(s api.Schema, by []int, aggs []api.Agg) (api.Schema, api.Errno) {
	if len(aggs) > api.MaxAggs {
		return api.Schema{}, api.ErrArg
	}
	var out api.Schema
	for _, k := range by {
		f, _ := kind.At(s, []int{k}) // a copy
		out.Fields = append(out.Fields, f)
	}
	for _, agg := range aggs {
		if !hasColumn(s, agg.Column) {
			return api.Schema{}, api.ErrRange
		}
		f, e := fold.Type(agg.Op, s.Fields[agg.Column])
		if e != api.OK {
			return api.Schema{}, e
		}
		f.Name = agg.Name
		out.Fields = append(out.Fields, f)
	}
	if kind.Check(out).Err != api.OK {
		return api.Schema{}, api.ErrType
	}
	return out, api.OK
}

// laid lays what comes out, of a schema, column by column.
func laid(s api.Schema, b api.Batch, by []int, aggs []api.Agg, out api.Schema) (api.Batch, api.Errno) {
	of, firsts := numbered(rowsOf(s, b, by))
	keys := api.Batch{Rows: b.Rows}
	for _, k := range by {
		keys.Columns = append(keys.Columns, b.Columns[k])
	}
	c, e := pick.TakeRows(api.Schema{Fields: out.Fields[:len(by)]}, keys, firsts)
	if e != api.OK {
		return api.Batch{}, e
	}
	groups := membersOf(of, len(firsts))
	for i, agg := range aggs {
		l, e := foldedAll(s, b, agg, groups)
		if e != api.OK {
			return api.Batch{}, e
		}
		d, e, _ := build.Of(out.Fields[len(by)+i], l)
		if e != api.OK {
			return api.Batch{}, e
		}
		c.Columns = append(c.Columns, d)
	}
	return c, api.OK
}

// foldedAll tells what an aggregate makes of each group's rows; or the error of the first group that has one.
func foldedAll(s api.Schema, b api.Batch, agg api.Agg, groups [][]int) ([]api.Value, api.Errno) {
	column := valuesOf(s, b, agg.Column)
	none, _ := fold.New(agg.Op, s.Fields[agg.Column])
	var l []api.Value
	for _, rows := range groups {
		x := none.Copy()
		add(x, s.Fields[agg.Column], b.Columns[agg.Column], rows, column)
		v, e := x.Value()
		if e != api.OK {
			return nil, e
		}
		l = append(l, v)
	}
	return l, api.OK
}

// add hands some rows of a column to an aggregate, as an array of their own: the column itself would be looked at whole for each group. Rows that can't be built so are left where they lie.
func add(x *fold.Fold, f api.Field, d api.Data, rows []int, column []api.Value) {
	l := make([]api.Value, len(rows))
	for i, n := range rows {
		l[i] = column[n]
	}
	part, e, _ := build.Of(f, l)
	if e != api.OK {
		x.AddRows(d, rows)
		return
	}
	x.Add(part)
}
