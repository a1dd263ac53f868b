package calc

import (
	"colonnade/api"
	"colonnade/value"
)

// truth is true or false as a value.
func truth(is bool) api.Value {
	if is {
		return api.Value{Num: 1}
	}
	return api.Value{}
}

// isTruth tells whether a value is not null, and true or false as is says.
func isTruth(v api.Value, is bool) bool { return !v.Null && (v.Num == 1) == is }

// and is false, if one is; or is true, if one is.
func and(v []api.Value) api.Value { return decided(v, false) }

func or(v []api.Value) api.Value { return decided(v, true) }

// decided is what decides, if one of two is it; else null, if one is null; else the other one of true and false.
func decided(v []api.Value, by bool) api.Value {
	switch {
	case isTruth(v[0], by) || isTruth(v[1], by):
		return truth(by)
	case v[0].Null || v[1].Null:
		return api.Value{Null: true}
	}
	return truth(!by)
}

func not(v []api.Value) api.Value { return truth(v[0].Num == 0) }

func isNull(v []api.Value) api.Value { return truth(v[0].Null) }

// firstOrElse is the first one, if it isn't null, else the second one.
func firstOrElse(v []api.Value) api.Value {
	if v[0].Null {
		return v[1]
	}
	return v[0]
}

// chosen is the second one, if the first one is true, else the third one.
func chosen(v []api.Value) api.Value {
	if isTruth(v[0], true) {
		return v[1]
	}
	return v[2]
}

// comparing tells what an operation does with two values of a type.
func comparing(op int, t api.Type) row {
	// Nulls don't come here: so the field need not let them, as one of a Choice may not. (Of kind Null it may not be, but then no row comes here.)
	f := api.Field{Name: "v", Type: t}
	is := orderOf(op)
	return sure(func(v []api.Value) api.Value {
		c, _ := value.Compare(f, v[0], v[1])
		return truth(is(c))
	})
}

// orderOf tells which outcomes of comparing an operation asks for.
func orderOf(op int) func(c int) bool {
	switch op {
	case api.OpEq:
		return func(c int) bool { return c == 0 }
	case api.OpNe:
		return func(c int) bool { return c != 0 }
	case api.OpLt:
		return func(c int) bool { return c < 0 }
	case api.OpLe:
		return func(c int) bool { return c <= 0 }
	case api.OpGt:
		return func(c int) bool { return c > 0 }
	}
	return func(c int) bool { return c >= 0 }
}
