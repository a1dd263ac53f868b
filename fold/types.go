package fold

import "colonnade/api"

// bare tells the bare field of a field that may be, in memory of its own.
func bare(f api.Field) api.Field {
	if k := f.Type.Kind; k == api.Dict || k == api.Runs {
		f.Type = bare(f.Type.Fields[0]).Type
		return f
	}
	list := make([]api.Field, len(f.Type.Fields))
	for i, g := range f.Type.Fields {
		list[i] = bare(g)
	}
	f.Type.Fields = list
	return f
}

// outcome tells the field of what an aggregate of a bare field comes to: one that may not be, if the operation doesn't take it.
func outcome(op int, f api.Field) api.Field {
	k := f.Type.Kind
	switch op {
	case api.AggCount, api.AggRows:
		return api.Field{Name: f.Name, Type: api.Type{Kind: api.Int64}}
	case api.AggSum:
		f.Type = api.Type{Kind: sumKind(k)}
	case api.AggAny, api.AggAll:
		if k != api.Bool {
			f.Type = api.Type{}
		}
	}
	f.Nullable = true
	return f
}

// sumKind tells the kind of the sum of numbers of a kind; of others there is none.
func sumKind(k int) int {
	switch k {
	case api.Int8, api.Int16, api.Int32, api.Int64:
		return api.Int64
	case api.Uint8, api.Uint16, api.Uint32, api.Uint64:
		return api.Uint64
	case api.Float64:
		return api.Float64
	}
	return api.KindNone
}
