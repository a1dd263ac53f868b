package group

import (
	"slices"

	"colonnade/api"
	"colonnade/array"
	"colonnade/pick"
	"colonnade/value"
)

// wrong tells what is wrong with a schema, a batch of it, or the columns by which it is grouped. (pick looks at the batch, also where no row is taken; build.Rows can't be asked instead, as it also refuses columns that are too heavy together.)
func wrong(s api.Schema, b api.Batch, by []int) api.Errno {
	if _, e := pick.TakeRows(s, b, nil); e != api.OK {
		return e
	}
	if len(by) > api.MaxKeys {
		return api.ErrArg
	}
	for i, k := range by {
		if !hasColumn(s, k) {
			return api.ErrRange
		}
		if slices.Contains(by[:i], k) {
			return api.ErrArg
		}
	}
	return api.OK
}

// hasColumn tells whether a schema has a column of a number.
func hasColumn(s api.Schema, k int) bool { return k >= 0 && k < len(s.Fields) }

// valuesOf tells the values of a column that is there.
func valuesOf(s api.Schema, b api.Batch, k int) []api.Value {
	a, _ := array.Open(s.Fields[k], b.Columns[k])
	return a.Values()
}

// rowsOf tells of each row what it is grouped by, as one value: a list of a value a column.
func rowsOf(s api.Schema, b api.Batch, by []int) []api.Value {
	rows := make([]api.Value, b.Rows)
	for _, k := range by {
		for i, v := range valuesOf(s, b, k) {
			rows[i].List = append(rows[i].List, v)
		}
	}
	return rows
}

// key is where a row's group is found: the hash of what it is grouped by, and the place of the group among those of that hash.
type key struct {
	hash  uint64
	place int
}

// numbered tells of each row the number of its group, and of each group its first row.
func numbered(rows []api.Value) (of, firsts []int) {
	numbers := map[key]int{}
	of = make([]int, len(rows))
	for i, row := range rows {
		k := key{hash: value.Hash(row)}
		n, ok := numbers[k]
		for ok && !value.Same(rows[firsts[n]], row) {
			k.place++
			n, ok = numbers[k]
		}
		if !ok {
			n = len(firsts)
			numbers[k] = n
			firsts = append(firsts, i)
		}
		of[i] = n
	}
	return of, firsts
}

// membersOf tells the rows of each of so many groups, in their order.
func membersOf(of []int, groups int) [][]int {
	members := make([][]int, groups)
	for i, n := range of {
		members[n] = append(members[n], i)
	}
	return members
}
