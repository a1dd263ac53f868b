package match

import (
	"slices"

	"colonnade/api"
	"colonnade/array"
	"colonnade/value"
)

// valuesOf tells the values of a column that is there.
func valuesOf(s api.Schema, b api.Batch, k int) []api.Value {
	a, _ := array.Open(s.Fields[k], b.Columns[k])
	return a.Values()
}

// keysOf tells of each row its keys, as one value: a list of a value a key.
func keysOf(s api.Schema, b api.Batch, keys []int) []api.Value {
	rows := make([]api.Value, b.Rows)
	for _, k := range keys {
		for i, v := range valuesOf(s, b, k) {
			rows[i].List = append(rows[i].List, v)
		}
	}
	return rows
}

// holdsNull tells whether a row has a key that is null.
func holdsNull(row api.Value) bool {
	return slices.ContainsFunc(row.List, func(v api.Value) bool { return v.Null })
}

// index is where rows are found by their keys: by the hash of these the numbers of the rows, those with the same keys in one list, in their order.
type index struct {
	rows  []api.Value
	lists map[uint64][][]int
}

// indexed puts all rows into an index but those with a null, which meet none. (So no row with a null finds its like there either.)
func indexed(rows []api.Value) index {
	x := index{rows, map[uint64][][]int{}}
	for i, row := range rows {
		if holdsNull(row) {
			continue
		}
		h := value.Hash(row)
		if k := x.place(h, row); k >= 0 {
			x.lists[h][k] = append(x.lists[h][k], i)
		} else {
			x.lists[h] = append(x.lists[h], []int{i})
		}
	}
	return x
}

// place tells which of the lists of a hash has the rows with the keys of a row; -1: none.
func (x index) place(h uint64, row api.Value) int {
	return slices.IndexFunc(x.lists[h], func(l []int) bool { return value.Same(x.rows[l[0]], row) })
}

// meeting tells the rows that meet a row.
func (x index) meeting(row api.Value) []int {
	h := value.Hash(row)
	if k := x.place(h, row); k >= 0 {
		return x.lists[h][k]
	}
	return nil
}

// manner is what a kind of join does with a left row that meets some right ones, with a left row that meets none, and with a right row that meets none.
type manner struct {
	meets      func(left int, right []int)
	leftAlone  func(left int)
	rightAlone func(right int)
}

// mannerOf tells the manner of a kind of join, by which pairs are laid.
func mannerOf(join int, lay func(left, right int)) manner {
	all := func(left int, right []int) {
		for _, r := range right {
			lay(left, r)
		}
	}
	once := func(left int, _ []int) { lay(left, none) }
	never := func(int, []int) {}
	left := func(row int) { lay(row, none) }
	right := func(row int) { lay(none, row) }
	nothing := func(int) {}
	return [...]manner{
		api.JoinInner: {all, nothing, nothing},
		api.JoinLeft:  {all, left, nothing},
		api.JoinFull:  {all, left, right},
		api.JoinSemi:  {once, nothing, nothing},
		api.JoinAnti:  {never, left, nothing},
	}[join]
}

// paired tells the pairs that a kind of join makes of rows, given by their keys.
func paired(join int, left, right []api.Value) ([][2]int, api.Errno) {
	var pairs [][2]int
	do := mannerOf(join, func(l, r int) { pairs = append(pairs, [2]int{l, r}) })
	x := indexed(right)
	met := make([]bool, len(right))
	for i, row := range left {
		l := x.meeting(row)
		if len(l) == 0 {
			do.leftAlone(i)
			continue
		}
		do.meets(i, l)
		if len(pairs) > api.MaxRows {
			// What is still to come would only be more.
			return nil, api.ErrRows
		}
		for _, r := range l {
			met[r] = true
		}
	}
	for r := range right {
		if !met[r] {
			do.rightAlone(r)
		}
	}
	if len(pairs) > api.MaxRows {
		return nil, api.ErrRows
	}
	return pairs, api.OK
}
