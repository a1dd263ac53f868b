package meta

import (
	"colonnade/api"
	"colonnade/view"
)

// pen lays heads that may be. None has more bytes than its ink takes: so nothing that it lays is refused.
type pen struct {
	ink *view.Ink
}

// number lays a number down in so many bytes.
func (p pen) number(n, width int) { p.ink.Number(uint64(n), width) }

// flag lays 1 or 0 down.
func (p pen) flag(is bool) {
	n := 0
	if is {
		n = 1
	}
	p.number(n, 1)
}

// text lays the number of a text's bytes down, in so many bytes, and these.
func (p pen) text(s string, width int) {
	p.number(len(s), width)
	p.ink.Text(s)
}

// head lays a head down.
func (p pen) head(h api.Head) {
	p.number(h.Kind, 1)
	p.number(form, 1)
	p.number(0, 1)
	p.number(0, 1)
	switch h.Kind {
	case api.HeadSchema:
		p.schema(h.Schema)
	case api.HeadDict:
		p.number(h.ID, 2)
		p.flag(h.Delta)
		fallthrough
	case api.HeadBatch:
		p.body(h)
	}
}

// schema lays a schema down.
func (p pen) schema(s api.Schema) {
	p.number(len(s.Fields), 2)
	p.fields(s.Fields)
	p.number(len(s.Notes), 2)
	for _, n := range s.Notes {
		p.text(n.Key, 2)
		p.text(n.Text, 2)
	}
}

// fields lays fields down, without their number.
func (p pen) fields(l []api.Field) {
	for _, f := range l {
		p.text(f.Name, 1)
		p.flag(f.Nullable)
		p.typ(f.Type)
	}
}

// typ lays a type down.
func (p pen) typ(t api.Type) {
	p.number(t.Kind, 1)
	switch t.Kind {
	case api.Fixed, api.Span:
		p.number(t.Width, 2)
	case api.Dict:
		p.number(t.ID, 2)
		p.number(t.Index, 1)
	case api.Struct, api.Choice:
		p.number(len(t.Fields), 1)
	}
	p.fields(t.Fields)
}

// body lays down what a head says of its body.
func (p pen) body(h api.Head) {
	p.number(h.Rows, 4)
	p.number(h.Press, 1)
	p.number(len(h.Nodes), 2)
	for _, n := range h.Nodes {
		p.number(n.Length, 4)
		p.number(n.Nulls, 4)
	}
	p.number(len(h.Slots), 2)
	for _, s := range h.Slots {
		p.number(s.At, 4)
		p.number(s.Len, 4)
		p.number(s.Raw, 4)
	}
}
