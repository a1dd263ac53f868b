package array

import (
	"sort"

	"colonnade/api"
)

// sum tells the sum of numbers.
func sum(list []int) int {
	s := 0
	for _, x := range list {
		s += x
	}
	return s
}

// lists are arrays of List.
type lists struct{ plain }

func (lists) needs(end int) ([]int, int) { return []int{4 * (end + 1)}, anyRows }

func (lists) wrong(l *look, n *node) (api.Errno, int) { return wrongOffsets(l, n, n.parts[0].length) }

func (lists) weight(l *look, n *node, r int, within [][]int) int {
	return itemsWeight(l, n, r, within[0])
}

func (lists) read(l *look, n *node, r int) api.Value { return readItems(l, n, r) }

// itemsWeight tells what a row of items weighs.
func itemsWeight(l *look, n *node, r int, within []int) int {
	from, to := l.items(n, r)
	return weightOfOne + sum(within[from:to])
}

// readItems tells a row of items.
func readItems(l *look, n *node, r int) api.Value {
	l.take(weightOfOne)
	from, to := l.items(n, r)
	return api.Value{List: l.values(n.parts[0], from, to)}
}

// spans are arrays of Span.
type spans struct {
	plain
	width int
}

func (f spans) needs(end int) ([]int, int) { return nil, end * f.width }

func (spans) weight(l *look, n *node, r int, within [][]int) int {
	return itemsWeight(l, n, r, within[0])
}

func (spans) read(l *look, n *node, r int) api.Value { return readItems(l, n, r) }

// structs are arrays of Struct.
type structs struct{ plain }

func (structs) needs(end int) ([]int, int) { return nil, end }

func (structs) weight(_ *look, _ *node, r int, within [][]int) int {
	w := weightOfOne
	for _, list := range within {
		w += list[r]
	}
	return w
}

func (structs) read(l *look, n *node, r int) api.Value {
	l.take(weightOfOne)
	list := make([]api.Value, len(n.parts))
	for k, p := range n.parts {
		list[k] = l.value(p, r)
	}
	return api.Value{List: list}
}

// choices are arrays of Choice.
type choices struct{ plain }

func (choices) needs(end int) ([]int, int) { return []int{end, 4 * end}, anyRows }

func (f choices) wrong(l *look, n *node) (api.Errno, int) {
	for i := range n.length {
		if _, _, e := f.named(l, n, n.offset+i); e != api.OK {
			return e, i
		}
	}
	return api.OK, 0
}

func (f choices) weight(l *look, n *node, r int, within [][]int) int {
	k, own, _ := f.named(l, n, r)
	return weightOfOne + within[k][own]
}

func (f choices) read(l *look, n *node, r int) api.Value {
	l.take(weightOfOne)
	k, own, e := f.named(l, n, r)
	if e != api.OK {
		panic(noValue{})
	}
	return api.Value{Num: int64(k), List: []api.Value{l.value(n.parts[k], own)}}
}

// named tells which child a row names, and which of its rows; or what is wrong with that.
func (choices) named(l *look, n *node, r int) (k, own int, e api.Errno) {
	code, _ := l.buffer(n, 0).Byte(r)
	k = int(code)
	if k >= len(n.parts) {
		return 0, 0, api.ErrCode
	}
	own = l.offset(n, r)
	if own < 0 || own >= n.parts[k].length {
		return 0, 0, api.ErrOffsets
	}
	return k, own, api.OK
}

// dicts are arrays of Dict.
type dicts struct {
	plain
	index numbers
}

func (f dicts) needs(end int) ([]int, int) { return f.index.needs(end) }

func (f dicts) wrong(l *look, n *node) (api.Errno, int) {
	for i := range n.length {
		r := n.offset + i
		if l.isOff(n, r) {
			continue
		}
		if _, ok := f.named(l, n, r); !ok {
			return api.ErrIndex, i
		}
	}
	return api.OK, 0
}

func (f dicts) weight(l *look, n *node, r int, within [][]int) int {
	own, _ := f.named(l, n, r)
	return within[0][own]
}

func (f dicts) read(l *look, n *node, r int) api.Value {
	own, ok := f.named(l, n, r)
	if !ok {
		panic(noValue{})
	}
	return l.value(n.parts[0], own)
}

// named tells which row of the dictionary a row names, if there is one. (An unsigned index above all rows may come as one below 0: it is none either way.)
func (f dicts) named(l *look, n *node, r int) (int, bool) {
	x := f.index.number(l, n, r)
	if x < 0 || x >= int64(n.parts[0].length) {
		return 0, false
	}
	return int(x), true
}

// runs are arrays of Runs.
type runs struct{ plain }

func (runs) needs(int) ([]int, int) { return nil, anyRows }

func (runs) wrongBehind(l *look, n *node) (api.Errno, int) {
	if n.parts[0].length != n.parts[1].length {
		return api.ErrUnlike, 0
	}
	b, last := l.ends(n), 0
	for k := range len(b) / 4 {
		x := endAt(b, k)
		if x <= last {
			return api.ErrEnds, k
		}
		last = x
	}
	if last < n.end() {
		return api.ErrEnds, len(b) / 4
	}
	return api.OK, 0
}

func (runs) weight(l *look, n *node, r int, within [][]int) int {
	b := l.ends(n)
	// These ends rise, so that the run need not be looked for from the first one on.
	k := sort.Search(len(b)/4, func(k int) bool { return endAt(b, k) > r })
	return within[1][k]
}

func (runs) read(l *look, n *node, r int) api.Value { return l.value(n.parts[1], l.run(n, r)) }
