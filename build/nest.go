package build

import "colonnade/api"

// lists makes arrays of List.
type lists struct {
	offsets []int
	items   *node
}

func (m *lists) lay(v api.Value) int {
	w := weightOfOne
	for _, x := range v.List {
		w += m.items.take(x)
	}
	m.offsets = append(m.offsets, m.items.rows())
	return w
}

func (m *lists) zero() int { return m.lay(api.Value{}) }

func (m *lists) keep() func() { return kept(m) }

func (m *lists) data(valid []bool) api.Data {
	d := masked(valid, numbered(m.offsets, offsetWidth))
	d.Children = []api.Data{m.items.data()}
	return d
}

// spans makes arrays of Span.
type spans struct {
	width int
	items *node
}

func (m *spans) lay(v api.Value) int {
	if v.Null {
		m.zero()
		return weightOfOne
	}
	w := weightOfOne
	for _, x := range v.List {
		w += m.items.take(x)
	}
	return w
}

func (m *spans) zero() int {
	w := weightOfOne
	for range m.width {
		w += m.items.zero()
	}
	return w
}

func (m *spans) keep() func() { return kept(m) }

func (m *spans) data(valid []bool) api.Data {
	d := masked(valid)
	d.Children = []api.Data{m.items.data()}
	return d
}

// structs makes arrays of Struct.
type structs struct {
	children []*node
}

func (m *structs) lay(v api.Value) int {
	if v.Null {
		m.zero()
		return weightOfOne
	}
	w := weightOfOne
	for k, x := range v.List {
		w += m.children[k].take(x)
	}
	return w
}

func (m *structs) zero() int {
	w := weightOfOne
	for _, c := range m.children {
		w += c.zero()
	}
	return w
}

func (m *structs) keep() func() { return kept(m) }

func (m *structs) data(valid []bool) api.Data {
	d := masked(valid)
	d.Children = dataOf(m.children)
	return d
}

// choices makes arrays of Choice.
type choices struct {
	codes, offsets []int
	children       []*node
}

func (m *choices) lay(v api.Value) int {
	return weightOfOne + m.name(int(v.Num)).take(v.List[0])
}

func (m *choices) zero() int { return weightOfOne + m.name(0).zero() }

// name lays a row that names a child's next one, and tells the child.
func (m *choices) name(code int) *node {
	c := m.children[code]
	m.codes = append(m.codes, code)
	m.offsets = append(m.offsets, c.rows())
	return c
}

func (m *choices) keep() func() { return kept(m) }

func (m *choices) data(valid []bool) api.Data {
	return api.Data{
		Length:   len(valid),
		Buffers:  [][]byte{numbered(m.codes, 1), numbered(m.offsets, offsetWidth)},
		Children: dataOf(m.children),
	}
}
