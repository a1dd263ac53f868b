package batch

import (
	"slices"

	"colonnade/api"
	"colonnade/kind"
	"colonnade/meta"
	"colonnade/press"
)

// isHead tells whether a head may be, and is of a kind.
func isHead(h api.Head, of int) bool {
	if h.Kind != of {
		return false
	}
	_, e := meta.Put(h)
	return e == api.OK
}

// wrongNumber tells the first of some numbers that is none of n columns, or that there are too many of them; -1: neither.
func wrongNumber(columns []int, n int) int {
	if len(columns) > api.MaxFields {
		return api.MaxFields
	}
	return slices.IndexFunc(columns, func(k int) bool { return k < 0 || k >= n })
}

// message is a head that may be and a body, as the arrays of some fields.
type message struct {
	fields       []api.Field
	head         api.Head
	body         []byte
	dicts        []api.Told
	nodes, slots []int // how many of them stand ahead of each field's; and, behind these, how many there must be in all
}

// newMessage counts what the fields tell of a message.
func newMessage(fields []api.Field, h api.Head, body []byte, dicts []api.Told) message {
	m := message{fields: fields, head: h, body: body, dicts: dicts, nodes: []int{0}, slots: []int{0}}
	for k, f := range fields {
		nodes, slots := count(f)
		m.nodes = append(m.nodes, m.nodes[k]+nodes)
		m.slots = append(m.slots, m.slots[k]+slots)
	}
	return m
}

// join tells the arrays of the columns that are named, or the first thing that is wrong.
func (m message) join(columns []int) ([]api.Data, api.Fault) {
	if x := m.wrongNodes(); x.Err != api.OK {
		return nil, x
	}
	if x := m.wrongSlots(); x.Err != api.OK {
		return nil, x
	}
	arrays := make([]api.Data, len(m.fields))
	// One that is named again is looked at once, so that its bytes are the same at both places.
	named := once(columns)
	for _, k := range named {
		if x := m.fill(k, &arrays[k]); x.Err != api.OK {
			return nil, x
		}
	}
	for _, k := range named {
		if x := checkColumn(m.fields[k], arrays[k], k); x.Err != api.OK {
			return nil, x
		}
	}
	l := make([]api.Data, len(columns))
	for i, k := range columns {
		l[i] = apart(m.fields[k], arrays[k])
	}
	return l, api.Fault{}
}

// once tells numbers without those that were there before.
func once(l []int) []int {
	var unlike []int
	for _, x := range l {
		if !slices.Contains(unlike, x) {
			unlike = append(unlike, x)
		}
	}
	return unlike
}

// wrongNodes tells what keeps the nodes from being those of the fields.
func (m message) wrongNodes() api.Fault {
	all := len(m.fields)
	if len(m.head.Nodes) != m.nodes[all] {
		return api.Fault{Err: api.ErrNodes}
	}
	for k, first := range m.nodes[:all] {
		if m.head.Nodes[first].Length != m.head.Rows {
			return api.Fault{Err: api.ErrNodes, At: k}
		}
	}
	return api.Fault{}
}

// wrongSlots tells what keeps the slots from being those of the fields and of the body.
func (m message) wrongSlots() api.Fault {
	if len(m.head.Slots) != m.slots[len(m.fields)] {
		return api.Fault{Err: api.ErrSlots}
	}
	at := 0
	for i, s := range m.head.Slots {
		if s.At != at || !m.takes(s) {
			return api.Fault{Err: api.ErrSlots, At: i}
		}
		at = roundUp(at + s.Len)
	}
	if len(m.body) > at {
		return api.Fault{Err: api.ErrSlots, At: len(m.head.Slots)}
	}
	return api.Fault{}
}

// takes tells whether a slot, and what brings it to a whole number of units, lies in the body, with numbers that may be.
func (m message) takes(s api.Slot) bool {
	end := s.At + s.Len
	next := roundUp(end)
	if next > len(m.body) || s.Raw > api.MaxBytes || m.head.Press == api.PressNone && s.Raw != s.Len {
		return false
	}
	return !slices.ContainsFunc(m.body[end:next], func(b byte) bool { return b != 0 })
}

// fill makes the array of a column out of its nodes and slots.
func (m message) fill(column int, d *api.Data) api.Fault {
	node, slot := m.nodes[column], m.slots[column]
	return through(part{field: m.fields[column], data: d, way: []int{column}}, func(p part) api.Fault {
		n := m.head.Nodes[node]
		p.data.Length, p.data.Nulls = n.Length, n.Nulls
		node++
		if t := p.field.Type; t.Kind == api.Dict {
			known := slices.IndexFunc(m.dicts, func(d api.Told) bool { return d.ID == t.ID })
			if known < 0 {
				return api.Fault{Err: api.ErrUnknown, Path: p.way, At: t.ID}
			}
			p.data.Dict = []api.Data{m.dicts[known].Values}
		}
		buffers, _, _ := kind.Shape(p.field.Type)
		for range buffers {
			b, e := m.buffer(m.head.Slots[slot])
			if e != api.OK {
				return api.Fault{Err: api.ErrSlots, At: slot}
			}
			p.data.Buffers = append(p.data.Buffers, b)
			slot++
		}
		return api.Fault{}
	}, nil)
}

// buffer tells a slot's bytes: the very ones, without the room behind them, or, where they are packed, what comes out.
func (m message) buffer(s api.Slot) ([]byte, api.Errno) {
	end := s.At + s.Len
	b := m.body[s.At:end:end]
	if m.head.Press == api.PressNone {
		return b, api.OK
	}
	return press.Unpack(m.head.Press, b, s.Raw)
}

// apart is the same array, with its dictionaries, in lists of its own around the very bytes.
func apart(f api.Field, d api.Data) api.Data {
	through(part{field: f, data: &d}, func(p part) api.Fault {
		p.data.Buffers = slices.Clone(p.data.Buffers)
		p.data.Children = slices.Clone(p.data.Children)
		p.data.Dict = slices.Clone(p.data.Dict)
		for k, values := range p.data.Dict {
			p.data.Dict[k] = apart(p.field.Type.Fields[0], values)
		}
		return api.Fault{}
	}, nil)
	return d
}
