package match

import (
	"testing"

	"colonnade/api"
)

// left and right are the batches of the chapter's examples.
func left(t testing.TB) side { return sideOf(t, "a int8?, b text", "1 null 2 1", `"x" "y" "z" "w"`) }

func right(t testing.TB) side { return sideOf(t, "c int8, d bool?", "1 3 1", "true false null") }

// example is a join of them.
func example(t testing.TB, join int, k1, k2 []int) ask { return ask{join, left(t), right(t), k1, k2} }

// The chapter's examples of Pairs.
func TestExamplesOfPairs(t *testing.T) {
	first := []int{0}
	for _, x := range []struct {
		join   int
		k1, k2 []int
		want   string
		e      api.Errno
	}{
		{api.JoinInner, first, first, "0,0 0,2 3,0 3,2", api.OK},
		{api.JoinLeft, first, first, "0,0 0,2 1,-1 2,-1 3,0 3,2", api.OK},
		{api.JoinFull, first, first, "0,0 0,2 1,-1 2,-1 3,0 3,2 -1,1", api.OK},
		{api.JoinSemi, first, first, "0,-1 3,-1", api.OK},
		{api.JoinAnti, first, first, "1,-1 2,-1", api.OK},
		{0, first, first, "", api.ErrArg},
		{6, first, first, "", api.ErrArg},
		{api.JoinInner, []int{}, []int{}, "", api.ErrKey},
		{api.JoinInner, first, []int{0, 1}, "", api.ErrKey},
		{api.JoinInner, []int{2}, first, "", api.ErrKey},
		{api.JoinInner, []int{0, 0}, []int{0, 0}, "", api.ErrKey},
		{api.JoinInner, []int{1}, first, "", api.ErrUnlike},
	} {
		holdsPairs(t, "example", example(t, x.join, x.k1, x.k2), pairsIn(t, x.want), x.e)
	}
	l := side{schemaOf(t, "a int8"), api.Batch{Rows: 65, Columns: []api.Data{formOf(t, field(t, "a int8"), make([]api.Value, 65))}}}
	holdsPairs(t, "two batches of 65 rows", ask{api.JoinInner, l, l, first, first}, nil, api.ErrRows)
}

// The chapter's examples of Type.
func TestExamplesOfType(t *testing.T) {
	first := []int{0}
	holdsType(t, "example", example(t, api.JoinLeft, first, first), schemaOf(t, "a int8?, b text, d bool?"), api.OK)
	holdsType(t, "example", example(t, api.JoinFull, first, first), schemaOf(t, "a int8?, b text?, d bool?"), api.OK)
	a := example(t, api.JoinInner, first, first)
	a.r.s = schemaOf(t, "a int8")
	holdsType(t, "a key's name", a, schemaOf(t, "a int8?, b text"), api.OK)
	a.r.s = schemaOf(t, "c int8, b bool")
	holdsType(t, "b twice", a, api.Schema{}, api.ErrTwice)
}

// The chapter's example of Join, and the other kinds of joins.
func TestExamplesOfJoin(t *testing.T) {
	for join, x := range map[int]struct {
		schema  string
		columns []string
	}{
		api.JoinInner: {"a int8?, b text, d bool?", []string{"1 1 1 1", `"x" "x" "w" "w"`, "true null true null"}},
		api.JoinLeft:  {"a int8?, b text, d bool?", []string{"1 1 null 2 1 1", `"x" "x" "y" "z" "w" "w"`, "true null null null true null"}},
		api.JoinFull:  {"a int8?, b text?, d bool?", []string{"1 1 null 2 1 1 3", `"x" "x" "y" "z" "w" "w" null`, "true null null null true null false"}},
		api.JoinSemi:  {"a int8?, b text", []string{"1 1", `"x" "w"`}},
		api.JoinAnti:  {"a int8?, b text", []string{"null 2", `"y" "z"`}},
	} {
		want := sideOf(t, x.schema, x.columns...)
		holdsJoin(t, "example", example(t, join, []int{0}, []int{0}), want.s, want.b, api.OK)
	}
}
