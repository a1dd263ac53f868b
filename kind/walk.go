package kind

import (
	"iter"
	"slices"

	"colonnade/api"
)

// spot is where a walk through fields stands.
type spot struct {
	list   []api.Field // in which the field stands
	way    []int       // to the field; the walk writes on in it
	inDict bool        // whether it stands in a dictionary's values
}

// number tells which field of its list it is.
func (p spot) number() int { return p.way[len(p.way)-1] }

// field tells the field, which is not copied.
func (p spot) field() api.Field { return p.list[p.number()] }

// each gives fields in their order. What is within a field is looked at when the next one is asked for: so whoever leaves at a fault may hand it anything.
func each(list []api.Field) iter.Seq[spot] {
	return func(yield func(spot) bool) {
		var way []int
		var down func(list []api.Field, inDict bool) bool
		down = func(list []api.Field, inDict bool) bool {
			for i, f := range list {
				way = append(way, i)
				if !yield(spot{list, way, inDict}) {
					return false
				}
				if !down(f.Type.Fields, inDict || f.Type.Kind == api.Dict) {
					return false
				}
				way = way[:len(way)-1]
			}
			return true
		}
		down(list, false)
	}
}

// Walk gives all fields of a schema, those within too, each with its way.
func Walk(s api.Schema) iter.Seq2[[]int, api.Field] {
	var kept []api.Field
	if mayBe(s) {
		kept = copied(s.Fields)
	}
	return func(yield func([]int, api.Field) bool) {
		for p := range each(kept) {
			f := p.field()
			f.Type = copiedType(f.Type)
			if !yield(slices.Clone(p.way), f) {
				return
			}
		}
	}
}

// copied tells the same fields in memory of their own.
func copied(list []api.Field) []api.Field {
	l := append([]api.Field(nil), list...)
	for i := range l {
		l[i].Type = copiedType(l[i].Type)
	}
	return l
}

// copiedType tells the same type, its children in memory of their own.
func copiedType(t api.Type) api.Type {
	t.Fields = copied(t.Fields)
	return t
}

// Count tells how many fields a schema has, those within too.
func Count(s api.Schema) int {
	x, n := look(s)
	if x.Err != api.OK {
		return 0
	}
	return n
}

// At tells the field to which a way leads.
func At(s api.Schema, path []int) (api.Field, api.Errno) {
	if !mayBe(s) {
		return api.Field{}, api.ErrType
	}
	if len(path) == 0 {
		return api.Field{}, api.ErrArg
	}
	var f api.Field
	list := s.Fields
	for _, i := range path {
		if i < 0 || i >= len(list) {
			return api.Field{}, api.ErrRange
		}
		f = list[i]
		list = f.Type.Fields
	}
	f.Type = copiedType(f.Type)
	return f, api.OK
}

// Find tells which field of a schema has a name; -1: none.
func Find(s api.Schema, name string) int {
	if !mayBe(s) {
		return -1
	}
	return numberOfName(s.Fields, name)
}
