package kind

import (
	"slices"

	"colonnade/api"
)

// Check tells the first thing that is wrong with a schema, and where.
func Check(s api.Schema) api.Fault {
	x, _ := look(s)
	return x
}

// CheckField tells the first thing that is wrong with a field, and where.
func CheckField(f api.Field) api.Fault {
	x := Check(alone(f))
	if x.Err != api.OK {
		x.Path = x.Path[1:]
	}
	return x
}

// alone is the schema of one field.
func alone(f api.Field) api.Schema { return api.Schema{Fields: []api.Field{f}} }

// mayBe tells whether a schema may be.
func mayBe(s api.Schema) bool { return Check(s).Err == api.OK }

// fieldMayBe tells whether a field may be.
func fieldMayBe(f api.Field) bool { return mayBe(alone(f)) }

// typeMayBe tells whether a type may be.
func typeMayBe(t api.Type) bool { return fieldMayBe(asField(t)) }

// asField is the field by which the document says what type may be: Nullable just where the type asks for it.
func asField(t api.Type) api.Field {
	null := t.Kind == api.Null
	if t.Kind == api.Runs && len(t.Fields) > 0 {
		null = t.Fields[0].Nullable
	}
	return api.Field{Name: "a", Nullable: null, Type: t}
}

// look tells the first fault of a schema, and how many fields stand ahead of it: of none, how many there are.
func look(s api.Schema) (api.Fault, int) {
	if x := lookAtLists(s); x.Err != api.OK {
		return x, 0
	}
	ahead := 0
	var taken [api.MaxDicts]bool
	for p := range each(s.Fields) {
		if e := wrong(p, ahead, taken); e != api.OK {
			return api.Fault{Err: e, Path: slices.Clone(p.way)}, ahead
		}
		if t := p.field().Type; t.Kind == api.Dict {
			taken[t.ID] = true
		}
		ahead++
	}
	return api.Fault{}, ahead
}

// lookAtLists tells what is wrong with a schema whatever its fields are.
func lookAtLists(s api.Schema) api.Fault {
	if len(s.Fields) > api.MaxFields {
		return api.Fault{Err: api.ErrMany, At: api.MaxFields}
	}
	if len(s.Notes) > api.MaxNotes {
		return api.Fault{Err: api.ErrMany, At: api.MaxNotes}
	}
	for i, n := range s.Notes {
		if len(n.Key) > api.MaxNote || len(n.Text) > api.MaxNote {
			return api.Fault{Err: api.ErrNote, At: i}
		}
	}
	return api.Fault{}
}

// wrong tells what is wrong with a field, so many fields and dictionaries of these numbers standing ahead of it. Each line leans on those above it.
func wrong(p spot, ahead int, taken [api.MaxDicts]bool) api.Errno {
	f := p.field()
	switch {
	case len(p.way) > api.MaxDepth:
		return api.ErrDeep
	case ahead >= api.MaxNodes:
		return api.ErrMany
	case !isName(f.Name):
		return api.ErrName
	case numberOfName(p.list, f.Name) != p.number():
		return api.ErrTwice
	case !fitsTable(f.Type):
		return api.ErrKind
	case !fitsNull(f):
		return api.ErrNull
	case p.inDict && (f.Type.Kind == api.Dict || f.Type.Kind == api.Runs):
		return api.ErrDict
	case f.Type.Kind == api.Dict && (f.Type.Fields[0].Nullable || taken[f.Type.ID]):
		return api.ErrDict
	}
	return api.OK
}

// isName tells whether a text may be a field's name.
func isName(name string) bool {
	if len(name) == 0 || len(name) > api.MaxName || isDigit(name[0]) {
		return false
	}
	for i := range len(name) {
		if !isWordByte(name[i]) {
			return false
		}
	}
	return true
}

// isDigit tells whether a byte is a digit.
func isDigit(c byte) bool { return '0' <= c && c <= '9' }

// isWordByte tells whether a byte may stand in a word.
func isWordByte(c byte) bool {
	return 'a' <= c && c <= 'z' || 'A' <= c && c <= 'Z' || isDigit(c) || c == '_'
}

// numberOfName tells the first field of a list that has a name; -1: none.
func numberOfName(list []api.Field, name string) int {
	return slices.IndexFunc(list, func(f api.Field) bool { return f.Name == name })
}

// fitsTable tells whether a type has a kind, and just what the table says of it.
func fitsTable(t api.Type) bool {
	if !isKind(t.Kind) {
		return false
	}
	r, n := kinds[t.Kind], len(t.Fields)
	return r.least <= n && n <= r.most && fitsWidth(t) && fitsDict(t)
}

// fitsWidth tells whether a type has a Width that the table lets.
func fitsWidth(t api.Type) bool {
	switch t.Kind {
	case api.Fixed:
		return t.Width >= 1 && t.Width <= api.MaxWidth
	case api.Span:
		return t.Width >= 1 && t.Width <= api.MaxSpan
	}
	return t.Width == 0
}

// fitsDict tells whether a type has an ID and an Index that the table lets.
func fitsDict(t api.Type) bool {
	if t.Kind == api.Dict {
		return t.ID >= 0 && t.ID < api.MaxDicts && isIndex(t.Index)
	}
	return t.ID == 0 && t.Index == 0
}

// fitsNull tells whether a field that has what the table says may be Nullable, or not, as it is.
func fitsNull(f api.Field) bool {
	switch f.Type.Kind {
	case api.Null:
		return f.Nullable
	case api.Choice:
		return !f.Nullable
	case api.Runs:
		return f.Nullable == f.Type.Fields[0].Nullable
	}
	return true
}
