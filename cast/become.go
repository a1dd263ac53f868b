package cast

import (
	"colonnade/api"
	"colonnade/value"
)

// become tells what a value that fits a field becomes as one of another, to which there is a way; false: it can't be.
func become(from api.Field, v api.Value, to api.Field) (api.Value, bool) {
	v, ok := turned(from, v, to)
	// What the other field lets is asked of the whole: nulls, ranges, UTF-8, widths; and its weight, as numbers that become texts weigh more than they did.
	return v, ok && value.Fits(to, v) == api.OK
}

// turned tells the one value that may be what a value becomes, if that fits; false: there is none. It hands on no list, not even one without values: there may be room behind it.
func turned(from api.Field, v api.Value, to api.Field) (w api.Value, ok bool) {
	if v.Null {
		return api.Value{Null: true}, true
	}
	a, b := plain(from), plain(to)
	switch {
	case isNumber(a.Kind) && isNumber(b.Kind):
		w.Num, ok = numberOf(a.Kind, v.Num, b.Kind)
	case isNumber(a.Kind):
		w.Text, ok = written(a.Kind, v.Num), true
	case isNumber(b.Kind):
		w.Num, ok = read(v.Text, b.Kind)
	case isText(a.Kind):
		w.Text, ok = v.Text, true
	default:
		// Of all these a Choice alone has a Num.
		w.Num = v.Num
		w.List, ok = turnedList(a, v, b)
	}
	return w, ok
}

// turnedList turns the values of a value's list.
func turnedList(a api.Type, v api.Value, b api.Type) ([]api.Value, bool) {
	list := make([]api.Value, len(v.List))
	for i, x := range v.List {
		k := childOf(a.Kind, v, i)
		w, ok := turned(a.Fields[k], x, b.Fields[k])
		if !ok {
			return nil, false
		}
		list[i] = w
	}
	return list, true
}

// childOf tells the number of the child whose value number i of a value's list is.
func childOf(k int, v api.Value, i int) int {
	switch k {
	case api.Struct:
		return i
	case api.Choice:
		return int(v.Num)
	}
	return 0
}
