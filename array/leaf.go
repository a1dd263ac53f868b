package array

import (
	"unicode/utf8"

	"colonnade/api"
	"colonnade/bits"
)

// nulls are arrays of Null, which have no bytes.
type nulls struct{ plain }

func (nulls) needs(int) ([]int, int) { return nil, anyRows }

func (nulls) weight(*look, *node, int, [][]int) int { return weightOfOne }

func (nulls) read(l *look, _ *node, _ int) api.Value {
	l.take(weightOfOne)
	return api.Value{Null: true}
}

// flags are arrays of Bool.
type flags struct{ plain }

func (flags) needs(end int) ([]int, int) { return []int{bits.Need(end)}, anyRows }

func (flags) weight(*look, *node, int, [][]int) int { return weightOfOne }

func (flags) read(l *look, n *node, r int) api.Value {
	l.take(weightOfOne)
	if l.bit(n, 1, r) {
		return api.Value{Num: 1}
	}
	return api.Value{}
}

// numbers are arrays of numbers, all of one width.
type numbers struct {
	plain
	width  int
	signed bool
}

func (f numbers) needs(end int) ([]int, int) { return []int{end * f.width}, anyRows }

func (numbers) weight(*look, *node, int, [][]int) int { return weightOfOne }

func (f numbers) read(l *look, n *node, r int) api.Value {
	l.take(weightOfOne)
	return api.Value{Num: f.number(l, n, r)}
}

// number tells the number of a row: of an unsigned one its bits.
func (f numbers) number(l *look, n *node, r int) int64 {
	b := l.buffer(n, 1)
	if f.signed {
		x, _ := b.Signed(r*f.width, f.width)
		return x
	}
	x, _ := b.Load(r*f.width, f.width)
	return int64(x)
}

// fixed are arrays of Fixed.
type fixed struct {
	plain
	width int
}

func (f fixed) needs(end int) ([]int, int) { return []int{end * f.width}, anyRows }

func (f fixed) weight(*look, *node, int, [][]int) int { return weightOfOne + f.width }

func (f fixed) read(l *look, n *node, r int) api.Value {
	l.take(weightOfOne + f.width)
	s, _ := l.buffer(n, 1).Text(r*f.width, f.width)
	return api.Value{Text: s}
}

// texts are arrays of Text and Bytes.
type texts struct {
	plain
	letters bool // the bytes must be right UTF-8
}

func (texts) needs(end int) ([]int, int) { return []int{4 * (end + 1), 0}, anyRows }

func (f texts) wrong(l *look, n *node) (api.Errno, int) {
	if e, at := wrongOffsets(l, n, n.buffers[2].Len()); e != api.OK || !f.letters {
		return e, at
	}
	for i := range n.length {
		r := n.offset + i
		if !l.isOff(n, r) && !utf8.ValidString(f.text(l, n, r)) {
			return api.ErrUtf, i
		}
	}
	return api.OK, 0
}

func (texts) weight(l *look, n *node, r int, _ [][]int) int {
	from, to := l.bounds(n, r, n.buffers[2].Len())
	return weightOfOne + to - from
}

func (f texts) read(l *look, n *node, r int) api.Value {
	s := f.text(l, n, r)
	l.take(weightOfOne + len(s))
	if f.letters && !utf8.ValidString(s) {
		panic(noValue{})
	}
	return api.Value{Text: s}
}

// text tells a row's bytes.
func (texts) text(l *look, n *node, r int) string {
	from, to := l.bounds(n, r, n.buffers[2].Len())
	s, _ := l.buffer(n, 2).Text(from, to-from)
	return s
}
