package match

import (
	"slices"

	"colonnade/api"
	"colonnade/kind"
)

// bare tells the bare field of a field that may be, in memory of its own.
func bare(f api.Field) api.Field {
	if k := f.Type.Kind; k == api.Dict || k == api.Runs {
		f.Type = bare(f.Type.Fields[0]).Type
		return f
	}
	list := make([]api.Field, len(f.Type.Fields))
	for i, g := range f.Type.Fields {
		list[i] = bare(g)
	}
	f.Type.Fields = list
	return f
}

// alike tells whether the types of two bare fields are. (kind.Alike lets no type by that may not be; such ones count here.)
func alike(a, b api.Type) bool {
	return a.Kind == b.Kind && a.Width == b.Width && slices.EqualFunc(a.Fields, b.Fields, func(f, g api.Field) bool {
		return f.Name == g.Name && f.Nullable == g.Nullable && alike(f.Type, g.Type)
	})
}

// origin tells from which column of the left batch, and from which of the right one, a column of a join has its values: a key of both, any other one of one of them.
type origin struct{ left, right int }

// keepsLeft tells whether a kind of join lays nothing but left rows, as they are.
func keepsLeft(join int) bool { return join == api.JoinSemi || join == api.JoinAnti }

// originsOf tells where the columns of a join come from, in their order.
func originsOf(join int, s1 api.Schema, k1 []int, s2 api.Schema, k2 []int) []origin {
	var l []origin
	for k := range s1.Fields {
		o := origin{k, none}
		if i := slices.Index(k1, k); i >= 0 && !keepsLeft(join) {
			o.right = k2[i]
		}
		l = append(l, o)
	}
	for k := range s2.Fields {
		if !slices.Contains(k2, k) && !keepsLeft(join) {
			l = append(l, origin{none, k})
		}
	}
	return l
}

// outcome tells the schema of a join whose columns have such origins; or what keeps it from being one.
func outcome(join int, s1, s2 api.Schema, origins []origin) (api.Schema, api.Errno) {
	var out api.Schema
	for _, o := range origins {
		out.Fields = append(out.Fields, fieldOf(join, s1, s2, o))
	}
	if x := kind.Check(out); x.Err != api.OK {
		return api.Schema{}, x.Err
	}
	return out, api.OK
}

// fieldOf tells the field of a column of a join, in memory of its own.
func fieldOf(join int, s1, s2 api.Schema, o origin) api.Field {
	if o.left == none {
		f := bare(s2.Fields[o.right])
		f.Nullable = f.Nullable || join != api.JoinInner
		return f
	}
	if keepsLeft(join) {
		f, _ := kind.At(s1, []int{o.left}) // a copy
		return f
	}
	f := bare(s1.Fields[o.left])
	if join == api.JoinFull {
		f.Nullable = f.Nullable || o.right == none || s2.Fields[o.right].Nullable
	}
	return f
}
