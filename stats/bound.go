package stats

import (
	"slices"
	"strings"

	"colonnade/api"
	"colonnade/value"
)

const (
	maxRows = 1048576 // of how many rows a stat tells at most
	maxText = 16      // how many bytes of a text a bound has at most
)

// plainKind tells the kind of the plain field of a field that may be.
func plainKind(f api.Field) int {
	for f.Type.Kind == api.Dict || f.Type.Kind == api.Runs {
		f = f.Type.Fields[0]
	}
	return f.Type.Kind
}

// isText tells whether the values of a kind are texts.
func isText(k int) bool { return k == api.Text || k == api.Bytes || k == api.Fixed }

// hasBounds tells whether bounds are known of the values of a plain kind.
func hasBounds(k int) bool { return k >= api.Bool && k <= api.Float64 || isText(k) }

// bounded tells a field that all bounds of a kind fit, and whose order is theirs.
func bounded(k int) api.Field {
	// A text's bound may be cut: so it need not be right UTF-8, and has no Width.
	if isText(k) {
		k = api.Bytes
	}
	return api.Field{Name: "bound", Type: api.Type{Kind: k}}
}

// orderOf tells the order of the bounds, and of the values that aren't null, of a kind that has bounds.
func orderOf(k int) func(a, b api.Value) int {
	f := bounded(k)
	return func(a, b api.Value) int {
		c, _ := value.Compare(f, a, b)
		return c
	}
}

// isStat tells whether a stat is one of a field of that plain kind.
func isStat(k int, x api.Stat) bool {
	if x.Nulls < 0 || x.Nulls > x.Rows || x.Rows > maxRows {
		return false
	}
	if !x.Has {
		return value.Same(x.Least, api.Value{}) && value.Same(x.Most, api.Value{})
	}
	return hasBounds(k) && x.Nulls < x.Rows && isBound(k, x.Least) && isBound(k, x.Most) && orderOf(k)(x.Least, x.Most) <= 0
}

// isBound tells whether a value may be a bound of a kind that has bounds.
func isBound(k int, v api.Value) bool {
	return len(v.Text) <= maxText && value.Fits(bounded(k), v) == api.OK
}

// statOf tells what is known of values of a plain kind.
func statOf(k int, rows []api.Value) api.Stat {
	x := api.Stat{Rows: len(rows)}
	rows = slices.DeleteFunc(rows, func(v api.Value) bool { return v.Null })
	x.Nulls = x.Rows - len(rows)
	if !hasBounds(k) || len(rows) == 0 {
		return x
	}
	order := orderOf(k)
	if most, ok := mostOf(slices.MaxFunc(rows, order)); ok {
		x.Has, x.Least, x.Most = true, leastOf(slices.MinFunc(rows, order)), most
	}
	return x
}

// leastOf tells the least bound of a value: itself, or the first bytes of its text.
func leastOf(v api.Value) api.Value { return boundOf(v, v.Text[:min(len(v.Text), maxText)]) }

// mostOf tells the greatest bound of a value: itself, or the first bytes of its text, raised, if they can be.
func mostOf(v api.Value) (most api.Value, ok bool) {
	if len(v.Text) <= maxText {
		return boundOf(v, v.Text), true
	}
	b := []byte(v.Text[:maxText])
	for n := len(b); n > 0; n-- {
		if b[n-1] < 255 {
			b[n-1]++
			return boundOf(v, string(b[:n])), true
		}
	}
	return api.Value{}, false
}

// boundOf tells a bound with a value's number and a text, in memory of its own.
func boundOf(v api.Value, text string) api.Value {
	return api.Value{Num: v.Num, Text: strings.Clone(text)}
}

// merged tells what is known of the rows of two stats together.
func merged(k int, a, b api.Stat) api.Stat {
	x := api.Stat{Rows: a.Rows + b.Rows, Nulls: a.Nulls + b.Nulls}
	least, most := []api.Value{a.Least, b.Least}, []api.Value{a.Most, b.Most}
	switch {
	case a.Nulls == a.Rows:
		x.Has, least, most = b.Has, least[1:], most[1:]
	case b.Nulls == b.Rows:
		x.Has, least, most = a.Has, least[:1], most[:1]
	default:
		x.Has = a.Has && b.Has
	}
	if x.Has {
		low, high := slices.MinFunc(least, orderOf(k)), slices.MaxFunc(most, orderOf(k))
		x.Least, x.Most = boundOf(low, low.Text), boundOf(high, high.Text)
	}
	return x
}
