package value

import (
	"strings"

	"colonnade/api"
)

// Zero tells a field's zero value.
func Zero(f api.Field) (api.Value, api.Errno) {
	if !mayBe(f) {
		return api.Value{}, api.ErrType
	}
	if zeroWeight(f) > api.MaxWeight {
		return api.Value{}, api.ErrRows
	}
	return zero(f), api.OK
}

// zeroWeight tells the weight of a field's zero value, which may be too great to be made; one above MaxWeight stands for all above it.
func zeroWeight(f api.Field) int {
	w, t := weightOfOne, f.Type
	if f.Nullable {
		return w
	}
	switch t.Kind {
	case api.Fixed:
		w += t.Width
	case api.Span:
		w += t.Width * zeroWeight(t.Fields[0])
	case api.Struct:
		for _, c := range t.Fields {
			w += zeroWeight(c)
		}
	case api.Choice:
		w += zeroWeight(t.Fields[0])
	case api.Dict, api.Runs:
		w = zeroWeight(t.Fields[0])
	}
	return min(w, api.MaxWeight+1)
}

// zero makes the zero value of a field, all its lists in memory of their own.
func zero(f api.Field) api.Value {
	var v api.Value
	if f.Nullable {
		return api.Value{Null: true}
	}
	switch t := f.Type; t.Kind {
	case api.Fixed:
		v.Text = strings.Repeat("\x00", t.Width)
	case api.Span:
		for range t.Width {
			v.List = append(v.List, zero(t.Fields[0]))
		}
	case api.Struct:
		for _, c := range t.Fields {
			v.List = append(v.List, zero(c))
		}
	case api.Choice:
		v.List = []api.Value{zero(t.Fields[0])}
	case api.Dict, api.Runs:
		return zero(t.Fields[0])
	}
	return v
}
