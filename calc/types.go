package calc

import (
	"slices"

	"colonnade/api"
	"colonnade/kind"
)

// argsOf tells how many arguments an operation has; of what is none 0.
func argsOf(op int) int {
	switch op {
	case api.OpNeg, api.OpNot, api.OpIsNull, api.OpLen:
		return 1
	case api.OpIf:
		return 3
	}
	if op >= api.OpAdd && op <= api.OpHolds {
		return 2
	}
	return 0
}

// outcome tells the type of what comes out of arguments of plain types, as many as the operation has; false: it doesn't take them.
func outcome(op int, t []api.Type) (api.Type, bool) {
	k, boolean := t[0].Kind, api.Type{Kind: api.Bool}
	switch op {
	case api.OpAdd, api.OpSub, api.OpMul, api.OpDiv:
		return t[0], areAlike(t) && (isWhole(k) || k == api.Float64)
	case api.OpRem:
		return t[0], areAlike(t) && isWhole(k)
	case api.OpNeg:
		return t[0], k >= api.Int8 && k <= api.Int64 || k == api.Float64
	case api.OpEq, api.OpNe, api.OpLt, api.OpLe, api.OpGt, api.OpGe:
		return boolean, areAlike(t)
	case api.OpAnd, api.OpOr, api.OpNot:
		return boolean, areAlike(t) && k == api.Bool
	case api.OpIsNull:
		return boolean, true
	case api.OpElse:
		return t[0], areAlike(t)
	case api.OpIf:
		return t[1], k == api.Bool && areAlike(t[1:])
	case api.OpGlue:
		return t[0], areAlike(t) && isLetters(k)
	case api.OpLen:
		return api.Type{Kind: api.Int64}, k >= api.Text && k <= api.Span
	case api.OpBegins, api.OpHolds:
		return boolean, areAlike(t) && isLetters(k)
	}
	return api.Type{}, false
}

// maybeNull tells whether what comes out of fields that may be is Nullable. (Such a field lets a null just if it is Nullable itself: of a Dict that is what counts, and a Runs is it just if its child is.)
func maybeNull(op int, l []api.Field) bool {
	switch op {
	case api.OpIsNull:
		return false
	case api.OpElse:
		return l[0].Nullable && l[1].Nullable
	case api.OpIf:
		l = l[1:]
	}
	return slices.ContainsFunc(l, func(f api.Field) bool { return f.Nullable })
}

// mayNotBe tells whether a field may not be.
func mayNotBe(f api.Field) bool { return kind.CheckField(f).Err != api.OK }

// plain tells the type of the plain field of a field that may be.
func plain(f api.Field) api.Type {
	for f.Type.Kind == api.Dict || f.Type.Kind == api.Runs {
		f = f.Type.Fields[0]
	}
	return f.Type
}

// plainTypes tells those of fields.
func plainTypes(l []api.Field) []api.Type {
	list := make([]api.Type, len(l))
	for i, f := range l {
		list[i] = plain(f)
	}
	return list
}

// areAlike tells whether types are all alike.
func areAlike(t []api.Type) bool {
	return !slices.ContainsFunc(t[1:], func(x api.Type) bool { return !kind.Alike(t[0], x) })
}

// isWhole tells whether a kind is one of whole numbers.
func isWhole(k int) bool { return k >= api.Int8 && k <= api.Uint64 }

// isLetters tells whether a kind's values are texts of any length.
func isLetters(k int) bool { return k == api.Text || k == api.Bytes }
