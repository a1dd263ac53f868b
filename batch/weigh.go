package batch

import "colonnade/api"

// weightOfOne is what a value weighs beside its text and its list.
const weightOfOne = 16

// scales makes what tells the weights of an array's rows. It is to be asked for each array that is gone through, behind its parts.
func scales() func(part) []int {
	var done [][]int // the weights of the rows of arrays whose own array is still to come
	return func(p part) []int {
		n := len(done) - len(p.data.Children)
		l := weights(p, done[n:])
		done = append(done[:n], l)
		return l
	}
}

// weights tells what each row of an array weighs; within are the weights of the rows of its parts.
func weights(p part, within [][]int) []int {
	a := lies(p)
	if a.kind() == api.Dict {
		within = [][]int{weightsOf(p.field.Type.Fields[0], p.data.Dict[0])}
	}
	l := make([]int, a.data.Length)
	for row := range l {
		l[row] = weightOfOne
		if !a.isNull(row) {
			l[row] = a.weight(row, within)
		}
	}
	return l
}

// weightsOf tells what each row of an array weighs that is not gone through.
func weightsOf(f api.Field, d api.Data) []int {
	var l []int
	weigh := scales()
	nothing := func(part) api.Fault { return api.Fault{} }
	through(part{field: f, data: &d}, nothing, func(p part) api.Fault {
		l = weigh(p)
		return api.Fault{}
	})
	return l
}

// weight tells what a row weighs that isn't null.
func (a *lying) weight(row int, within [][]int) int {
	switch a.kind() {
	case api.Text, api.Bytes:
		from, to := a.bounds(row)
		return weightOfOne + to - from
	case api.Fixed:
		return weightOfOne + a.width
	case api.List, api.Span:
		from, to := a.bounds(row)
		return weightOfOne + sum(within[0][from:to])
	case api.Struct:
		w := weightOfOne
		for _, l := range within {
			w += l[a.data.Offset+row]
		}
		return w
	case api.Choice:
		k, own := a.named(row)
		return weightOfOne + within[k][own]
	case api.Dict:
		return within[0][a.index(row)]
	case api.Runs:
		return within[1][a.run(row)]
	}
	return weightOfOne
}

// sum tells the sum of numbers.
func sum(l []int) int {
	s := 0
	for _, x := range l {
		s += x
	}
	return s
}
