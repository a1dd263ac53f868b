package expr

import (
	"slices"

	"colonnade/api"
)

// lazy is an operation of calc that asks its first argument, and, as that is, another one or none.
type lazy struct{ reckoning }

func (n lazy) ask(p *part, rows [][]api.Value) []api.Value {
	first := p.args[0].ask(rows)
	list := slices.Clone(first)
	for k := 1; k < len(p.args); k++ {
		var at []int
		var asked [][]api.Value
		for i, v := range first {
			if n.next(v) == k {
				at, asked = append(at, i), append(asked, rows[i])
			}
		}
		if len(asked) == 0 {
			continue
		}
		for j, v := range p.args[k].ask(asked) {
			list[at[j]] = n.joined(first[at[j]], v)
		}
	}
	// What an argument could lay the whole can lay, too, but for a null: of a Span it lays zero values, of a dictionary of Spans none.
	if slices.ContainsFunc(list, func(v api.Value) bool { return v.Null }) {
		p.mustLie([]api.Value{{Null: true}})
	}
	return list
}

// next tells which argument is asked behind the first one, which is v; 0: none, and the whole is v.
func (n lazy) next(v api.Value) int {
	switch {
	case n.op == api.OpIf && isTruth(v, 1):
		return 1
	case n.op == api.OpIf:
		return 2
	case n.op == api.OpElse && !v.Null:
		return 0
	case n.op == api.OpAnd && isTruth(v, 0):
		return 0
	case n.op == api.OpOr && isTruth(v, 1):
		return 0
	}
	return 1
}

// joined tells what the whole is, where the first argument and another one were asked.
func (n lazy) joined(first, other api.Value) api.Value {
	switch {
	case n.op == api.OpAnd && first.Null && !isTruth(other, 0):
		return first
	case n.op == api.OpOr && first.Null && !isTruth(other, 1):
		return first
	}
	return other
}

// isTruth tells whether a Bool value is not null, and is 1 (true) or 0 (false) as asked.
func isTruth(v api.Value, is int64) bool { return !v.Null && v.Num == is }
