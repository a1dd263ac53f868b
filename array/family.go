package array

import (
	"math"

	"colonnade/api"
	"colonnade/kind"
)

// family is how the arrays of some kinds lie. A row is told by r, its array's Offset counted.
type family interface {
	// needs tells how many bytes the buffers behind the validity must have, and how many rows each part, if the rows end at a number.
	needs(end int) (buffers []int, rows int)
	// wrong tells what is wrong with the bytes of the rows, and where; parts are known by their Lengths alone.
	wrong(l *look, n *node) (api.Errno, int)
	// wrongBehind tells what is wrong when all parts are right.
	wrongBehind(l *look, n *node) (api.Errno, int)
	// weight tells what a row of a right array that isn't null weighs; within are the weights of the parts' rows.
	weight(l *look, n *node, r int, within [][]int) int
	// read tells the value of a row that isn't null by its validity.
	read(l *look, n *node, r int) api.Value
}

// anyRows is how many rows a part must have of which no number is asked; a Length below 0 is told later.
const anyRows = math.MinInt

// familyOf tells how the arrays of a type lie.
func familyOf(t api.Type) family {
	switch t.Kind {
	case api.Null:
		return nulls{}
	case api.Bool:
		return flags{}
	case api.Text, api.Bytes:
		return texts{letters: t.Kind == api.Text}
	case api.Fixed:
		return fixed{width: t.Width}
	case api.List:
		return lists{}
	case api.Span:
		return spans{width: t.Width}
	case api.Struct:
		return structs{}
	case api.Choice:
		return choices{}
	case api.Dict:
		return dicts{index: numbers{width: kind.Width(t), signed: isSigned(t.Index)}}
	case api.Runs:
		return runs{}
	}
	return numbers{width: kind.Width(t), signed: isSigned(t.Kind)}
}

// isSigned tells whether the numbers of a kind may be below 0.
func isSigned(k int) bool { return k >= api.Int8 && k <= api.Int64 }

// plain is what most families have in common: any bytes will do, if there are enough of them.
type plain struct{}

func (plain) wrong(*look, *node) (api.Errno, int) { return api.OK, 0 }

func (plain) wrongBehind(*look, *node) (api.Errno, int) { return api.OK, 0 }

// wrongOffsets tells the first offset of the rows that is below 0, falls, or lies above a number.
func wrongOffsets(l *look, n *node, most int) (api.Errno, int) {
	least := 0
	for i := range n.length + 1 {
		x := l.offset(n, n.offset+i)
		if x < least || x > most {
			return api.ErrOffsets, i
		}
		least = x
	}
	return api.OK, 0
}
