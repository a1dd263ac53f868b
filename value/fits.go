package value

import (
	"unicode/utf8"

	"colonnade/api"
)

// weightOfOne is what a value weighs beside its text and its list.
const weightOfOne = 16

// Fits tells whether a value fits a field.
func Fits(f api.Field, v api.Value) api.Errno {
	if !mayBe(f) {
		return api.ErrType
	}
	if !fits(f, v) {
		return api.ErrValue
	}
	return api.OK
}

// fits tells whether a value fits a field that may be.
func fits(f api.Field, v api.Value) bool {
	s := scale{api.MaxWeight}
	return s.fits(f, v)
}

// scale is how much weight a value's parts may still have. It bounds how many of them are looked at, as one list may stand at many places.
type scale struct {
	left int
}

// fits tells whether a value, and its weight, still fit.
func (s *scale) fits(f api.Field, v api.Value) bool {
	s.left -= weightOfOne + len(v.Text)
	return s.left >= 0 && s.fitsType(f, v)
}

// fitsType tells whether a value that has been weighed itself is what its field says.
func (s *scale) fitsType(f api.Field, v api.Value) bool {
	noNum, noText, noList := v.Num == 0, v.Text == "", len(v.List) == 0
	if v.Null {
		// A Choice is never Nullable, and a Runs just if its child is.
		return f.Nullable && noNum && noText && noList
	}
	switch t := f.Type; t.Kind {
	case api.Text:
		return noNum && noList && utf8.ValidString(v.Text)
	case api.Bytes:
		return noNum && noList
	case api.Fixed:
		return noNum && noList && len(v.Text) == t.Width
	case api.List:
		return noNum && noText && s.fitsItems(t.Fields[0], v.List)
	case api.Span:
		return noNum && noText && len(v.List) == t.Width && s.fitsItems(t.Fields[0], v.List)
	case api.Struct:
		return noNum && noText && s.fitsParts(t.Fields, v.List)
	case api.Choice:
		return noText && s.fitsChoice(t.Fields, v)
	case api.Dict, api.Runs:
		return s.fitsType(t.Fields[0], v)
	default:
		return noText && noList && fitsNumber(t.Kind, v.Num)
	}
}

// fitsItems tells whether a list's values fit one field.
func (s *scale) fitsItems(f api.Field, list []api.Value) bool {
	if len(list) > api.MaxRows {
		return false
	}
	for _, v := range list {
		if !s.fits(f, v) {
			return false
		}
	}
	return true
}

// fitsParts tells whether a list's values fit a field each.
func (s *scale) fitsParts(fields []api.Field, list []api.Value) bool {
	if len(list) != len(fields) {
		return false
	}
	for i, v := range list {
		if !s.fits(fields[i], v) {
			return false
		}
	}
	return true
}

// fitsChoice tells whether a value names a child, and has one value of it.
func (s *scale) fitsChoice(fields []api.Field, v api.Value) bool {
	return v.Num >= 0 && v.Num < int64(len(fields)) && len(v.List) == 1 && s.fits(fields[v.Num], v.List[0])
}

// fitsNumber tells whether a number is one of a kind; of a kind whose values aren't numbers none is.
func fitsNumber(k int, n int64) bool {
	switch k {
	case api.Bool:
		return n == 0 || n == 1
	case api.Int8:
		return n == int64(int8(n))
	case api.Int16:
		return n == int64(int16(n))
	case api.Int32:
		return n == int64(int32(n))
	case api.Uint8:
		return n == int64(uint8(n))
	case api.Uint16:
		return n == int64(uint16(n))
	case api.Uint32:
		return n == int64(uint32(n))
	}
	return k == api.Int64 || k == api.Uint64 || k == api.Float64
}
