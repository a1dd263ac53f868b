package meta

import (
	"colonnade/api"
	"colonnade/view"
)

// reader is the bytes of a head, and how far they are read. At the first thing that is wrong it gives up: it panics with a fault.
type reader struct {
	bytes view.View
	at    int
	begun int // fields
}

// read reads all bytes as a head, and then asks whether it may be.
func read(v view.View) (h api.Head, x api.Fault) {
	defer func() {
		switch p := recover().(type) {
		case nil:
		case api.Fault:
			h, x = api.Head{}, p
		default:
			panic(p)
		}
	}()
	r := &reader{bytes: v}
	h = r.head()
	if r.at < v.Len() {
		giveUp(api.ErrRest, r.at)
	}
	if !mayBe(h) {
		giveUp(api.ErrHead, 0)
	}
	return h, api.Fault{}
}

// giveUp leaves off at a byte.
func giveUp(e api.Errno, at int) { panic(api.Fault{Err: e, At: at}) }

// number reads a number of so many bytes.
func (r *reader) number(width int) int {
	n, e := r.bytes.Load(r.at, width)
	if e != api.OK {
		giveUp(api.ErrShort, r.at)
	}
	r.at += width
	return int(n)
}

// among reads a number of one byte that can't but be one of least to most.
func (r *reader) among(least, most int) int {
	from := r.at
	n := r.number(1)
	if n < least || n > most {
		giveUp(api.ErrForm, from)
	}
	return n
}

// flag reads 1 or 0.
func (r *reader) flag() bool { return r.among(0, 1) == 1 }

// text reads the number of a text's bytes, of so many bytes, and these.
func (r *reader) text(width int) string {
	n := r.number(width)
	s, e := r.bytes.Text(r.at, n)
	if e != api.OK {
		giveUp(api.ErrShort, r.at)
	}
	r.at += n
	return s
}

// several reads n things of one kind.
func several[T any](n int, one func() T) []T {
	// The list grows by what is there: its number is said by anybody.
	var l []T
	for range n {
		l = append(l, one())
	}
	return l
}

// head reads a head.
func (r *reader) head() api.Head {
	h := api.Head{Kind: r.among(api.HeadSchema, api.HeadBatch)}
	r.among(form, form)
	r.among(0, 0)
	r.among(0, 0)
	switch h.Kind {
	case api.HeadSchema:
		h.Schema = r.schema()
	case api.HeadDict:
		h.ID = r.number(2)
		h.Delta = r.flag()
		fallthrough
	case api.HeadBatch:
		h.Rows = r.number(4)
		h.Press = r.number(1)
		h.Nodes = several(r.number(2), r.node)
		h.Slots = several(r.number(2), r.slot)
	}
	return h
}

// schema reads a schema.
func (r *reader) schema() api.Schema {
	var s api.Schema
	s.Fields = r.fields(r.number(2), 1)
	s.Notes = several(r.number(2), r.note)
	return s
}

// note reads a note.
func (r *reader) note() api.Note {
	key := r.text(2)
	return api.Note{Key: key, Text: r.text(2)}
}

// fields reads n fields of a level.
func (r *reader) fields(n, level int) []api.Field {
	return several(n, func() api.Field { return r.field(level) })
}

// field reads a field. Whether there may be one more is asked ahead of its bytes: so bytes of anybody's hand lead neither deep nor far.
func (r *reader) field(level int) api.Field {
	if r.begun == api.MaxNodes || level > api.MaxDepth {
		giveUp(api.ErrHead, r.at)
	}
	r.begun++
	var f api.Field
	f.Name = r.text(1)
	f.Nullable = r.flag()
	f.Type = r.typ(level)
	return f
}

// typ reads the type of a field of a level.
func (r *reader) typ(level int) api.Type {
	t := api.Type{Kind: r.among(api.Null, api.Runs)}
	children := 0
	switch t.Kind {
	case api.Fixed:
		t.Width = r.number(2)
	case api.Span:
		t.Width = r.number(2)
		children = 1
	case api.Dict:
		t.ID = r.number(2)
		t.Index = r.number(1)
		children = 1
	case api.List, api.Runs:
		children = 1
	case api.Struct, api.Choice:
		children = r.number(1)
	}
	t.Fields = r.fields(children, level+1)
	return t
}

// node reads a node.
func (r *reader) node() api.Node {
	length := r.number(4)
	return api.Node{Length: length, Nulls: r.number(4)}
}

// slot reads a slot.
func (r *reader) slot() api.Slot {
	at := r.number(4)
	long := r.number(4)
	return api.Slot{At: at, Len: long, Raw: r.number(4)}
}
