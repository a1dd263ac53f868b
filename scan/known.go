package scan

import (
	"slices"

	"colonnade/api"
	"colonnade/file"
	"colonnade/stats"
)

// countWidth is how many bytes tell how many bytes a batch's stats have.
const countWidth = 4

// statistics lays what is known of the columns of a table's batches; nothing, if that is more than a file keeps.
func statistics(t api.Table) []byte {
	var all []byte
	for _, b := range t.Batches {
		l := laidStats(t.Schema, b)
		for i := range countWidth {
			all = append(all, byte(len(l)>>(8*i)))
		}
		all = append(all, l...)
		if len(all) > api.MaxMeta {
			return nil
		}
	}
	return all
}

// laidStats lays what is known of a batch's columns. (It is one of the schema: file.Put has written it.)
func laidStats(s api.Schema, b api.Batch) []byte {
	var l []api.Stat
	for k, f := range s.Fields {
		x, _ := stats.Of(f, b.Columns[k])
		l = append(l, x)
	}
	laid, _ := stats.Put(s, l)
	return laid
}

// blocksOf tells the numbers of a file's blocks that must be read for a filter.
func blocksOf(f *file.File, s api.Schema, filter api.Expr) []int {
	var known [][]api.Stat
	if filter.Op != api.OpNone {
		known = knownOf(f, s)
	}
	var l []int
	for k := range f.Len() {
		if known == nil || mayMeet(s, filter, known[k]) {
			l = append(l, k)
		}
	}
	return l
}

// mayMeet tells whether some row of a block may meet a filter, by what is known of its columns.
func mayMeet(s api.Schema, filter api.Expr, known []api.Stat) bool {
	may, e := stats.May(s, filter, known)
	return may || e != api.OK
}

// knownOf tells what is known of a file's columns, block by block; nil, if the file has no statistics.
func knownOf(f *file.File, s api.Schema) [][]api.Stat {
	rest := f.Extra()
	var known [][]api.Stat
	for k := range f.Len() {
		var b []byte
		var ok bool
		if b, rest, ok = cutCounted(rest); !ok {
			return nil
		}
		l, e := stats.Get(s, b)
		if e != api.OK || slices.ContainsFunc(l, func(x api.Stat) bool { return x.Rows != f.Rows(k) }) {
			return nil
		}
		known = append(known, l)
	}
	if len(rest) > 0 {
		return nil
	}
	return known
}

// cutCounted cuts off bytes that stand behind their number, and tells them and the rest.
func cutCounted(b []byte) (first, rest []byte, ok bool) {
	if len(b) < countWidth {
		return nil, nil, false
	}
	n := 0
	for i, c := range b[:countWidth] {
		n |= int(c) << (8 * i)
	}
	b = b[countWidth:]
	if n > len(b) {
		return nil, nil, false
	}
	return b[:n], b[n:], true
}
