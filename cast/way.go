package cast

import (
	"slices"

	"colonnade/api"
)

// plain tells the type of the plain field of a field that may be. (Whether that lets a null is asked of the field itself.)
func plain(f api.Field) api.Type {
	for f.Type.Kind == api.Dict || f.Type.Kind == api.Runs {
		f = f.Type.Fields[0]
	}
	return f.Type
}

// isNumber tells whether a kind is a whole number's, Bool or Float64.
func isNumber(k int) bool { return k >= api.Bool && k <= api.Float64 }

// isText tells whether a kind's values are texts, of whatever bytes.
func isText(k int) bool { return k == api.Text || k == api.Bytes || k == api.Fixed }

// isList tells whether a kind's values are lists of one field's.
func isList(k int) bool { return k == api.List || k == api.Span }

// isWay tells whether there is a way from a field to another one, both of which may be.
func isWay(from, to api.Field) bool {
	a, b := plain(from), plain(to)
	switch {
	case a.Kind == api.Null:
		return b.Kind != api.Choice
	case isNumber(a.Kind):
		return isNumber(b.Kind) || b.Kind == api.Text
	case isText(a.Kind):
		return isText(b.Kind) || a.Kind == api.Text && isNumber(b.Kind)
	case isList(a.Kind):
		return isList(b.Kind) && isWay(a.Fields[0], b.Fields[0])
	}
	return a.Kind == b.Kind && slices.EqualFunc(a.Fields, b.Fields, isWayOfLikes)
}

// isWayOfLikes tells whether there is a way between children that have one place.
func isWayOfLikes(from, to api.Field) bool { return from.Name == to.Name && isWay(from, to) }
