package kind

import (
	"slices"

	"colonnade/api"
)

// Depth tells how deep a type is.
func Depth(t api.Type) int {
	if !typeMayBe(t) {
		return 0
	}
	deepest := 1
	for p := range each(t.Fields) {
		deepest = max(deepest, 1+len(p.way))
	}
	return deepest
}

// Alike tells whether two types are alike.
func Alike(a, b api.Type) bool {
	return typeMayBe(a) && typeMayBe(b) && sameTypes(a, b)
}

// AlikeFields tells whether two fields are alike.
func AlikeFields(a, b api.Field) bool {
	return fieldMayBe(a) && fieldMayBe(b) && a.Nullable == b.Nullable && sameTypes(a.Type, b.Type)
}

// AlikeSchemas tells whether two schemas are alike.
func AlikeSchemas(a, b api.Schema) bool {
	return mayBe(a) && mayBe(b) && slices.EqualFunc(a.Fields, b.Fields, sameFields)
}

// sameTypes tells whether two types that may be are the same in all.
func sameTypes(a, b api.Type) bool {
	return a.Kind == b.Kind && a.Width == b.Width && a.ID == b.ID && a.Index == b.Index &&
		slices.EqualFunc(a.Fields, b.Fields, sameFields)
}

// sameFields tells whether two fields that may be are the same in all.
func sameFields(a, b api.Field) bool {
	return a.Name == b.Name && a.Nullable == b.Nullable && sameTypes(a.Type, b.Type)
}

// Shape tells how many buffers, children and dictionaries an array of a type has.
func Shape(t api.Type) (buffers, children, dicts int) {
	if !typeMayBe(t) {
		return -1, -1, -1
	}
	buffers, children = kinds[t.Kind].buffers, len(t.Fields)
	switch t.Kind {
	case api.Dict:
		return buffers, 0, 1
	case api.Runs:
		return buffers, 2, 0
	}
	return buffers, children, 0
}

// Width tells how many bytes a row has in the buffer of values.
func Width(t api.Type) int {
	if !typeMayBe(t) {
		return 0
	}
	switch t.Kind {
	case api.Dict:
		return kinds[t.Index].width
	case api.Fixed:
		return t.Width
	}
	return kinds[t.Kind].width
}

// Parts tells the fields of the arrays within an array of a type.
func Parts(t api.Type) []api.Field {
	if !typeMayBe(t) || t.Kind == api.Dict {
		return nil
	}
	l := copied(t.Fields)
	if t.Kind == api.Runs {
		ends := api.Field{Name: "ends", Type: api.Type{Kind: api.Int32}}
		return []api.Field{ends, l[0]}
	}
	return l
}
