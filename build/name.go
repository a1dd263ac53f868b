package build

import (
	"colonnade/api"
	"colonnade/kind"
	"colonnade/value"
)

// indices makes arrays of Dict.
type indices struct {
	child   api.Field
	width   int // of an index
	most    int // so many values the indices have numbers for
	list    []int
	values  *node
	known   []known          // the dictionary's values, by their numbers
	numbers map[uint64][]int // the numbers of the values that have a hash
}

// known is a value of a dictionary, with its weight.
type known struct {
	value  api.Value
	weight int
}

func newIndices(t api.Type, values *node) *indices {
	return &indices{child: t.Fields[0], width: kind.Width(t), most: numbersOf(t.Index), values: values, numbers: map[uint64][]int{}}
}

// numbersOf tells how many numbers from 0 on a kind of indices has; of the wider kinds that it has more than an array has rows.
func numbersOf(index int) int {
	switch index {
	case api.Int8:
		return 1 << 7
	case api.Uint8:
		return 1 << 8
	}
	return 1 << 15
}

func (m *indices) lay(v api.Value) int {
	if v.Null {
		m.list = append(m.list, 0)
		return weightOfOne
	}
	hash := value.Hash(v)
	number, ok := m.find(hash, v)
	if !ok {
		m.room()
		m.known = append(m.known, known{v, m.values.take(v)})
		m.numbers[hash] = append(m.numbers[hash], number)
	}
	m.list = append(m.list, number)
	return m.known[number].weight
}

func (m *indices) zero() int {
	v, e := value.Zero(m.child)
	if e != api.OK {
		// It is too heavy to be made: so it is not known, and the dictionary meets a limit as it takes it in.
		m.room()
		return m.values.zero()
	}
	return m.lay(v)
}

// find tells the number of a value that is known; else the next number.
func (m *indices) find(hash uint64, v api.Value) (int, bool) {
	for _, k := range m.numbers[hash] {
		if value.Same(m.known[k].value, v) {
			return k, true
		}
	}
	return len(m.known), false
}

// room refuses a value for which there is no number left.
func (m *indices) room() {
	if len(m.known) == m.most {
		refuse(api.ErrIndices)
	}
}

func (m *indices) keep() func() {
	back := kept(m)
	before := len(m.known)
	return func() {
		for _, k := range m.known[before:] {
			m.forget(value.Hash(k.value))
		}
		back()
	}
}

// forget drops the last number of a hash.
func (m *indices) forget(hash uint64) {
	list := m.numbers[hash]
	m.numbers[hash] = list[:len(list)-1]
	if len(list) == 1 {
		delete(m.numbers, hash)
	}
}

func (m *indices) data(valid []bool) api.Data {
	d := masked(valid, numbered(m.list, m.width))
	d.Dict = []api.Data{m.values.data()}
	return d
}

// runs makes arrays of Runs.
type runs struct {
	child  api.Field
	rows   int
	starts []int // the first row of each run
	values *node
	last   known // the last run's value
}

func (m *runs) lay(v api.Value) int {
	if len(m.starts) == 0 || !value.Same(m.last.value, v) {
		m.last = known{v, m.values.take(v)}
		m.starts = append(m.starts, m.rows)
	}
	m.rows++
	return m.last.weight
}

func (m *runs) zero() int {
	v, e := value.Zero(m.child)
	if e != api.OK {
		// It is too heavy to be made: so the last run has another one, and the values meet a limit as they take it in.
		return m.values.zero()
	}
	return m.lay(v)
}

func (m *runs) keep() func() { return kept(m) }

func (m *runs) data(valid []bool) api.Data {
	// A run ends where the next one starts, the last one behind all rows.
	var ends []int
	if len(m.starts) > 0 {
		ends = append(ends, m.starts[1:]...)
		ends = append(ends, m.rows)
	}
	first := api.Data{Length: len(ends), Buffers: [][]byte{nil, numbered(ends, offsetWidth)}}
	return api.Data{Length: len(valid), Children: []api.Data{first, m.values.data()}}
}
