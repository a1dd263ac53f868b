package build

import (
	"colonnade/api"
	"colonnade/bits"
	"colonnade/kind"
	"colonnade/view"
)

// masked is an array with a validity ahead of its other buffers.
func masked(valid []bool, buffers ...[]byte) api.Data {
	d := api.Data{Length: len(valid)}
	for _, ok := range valid {
		if !ok {
			d.Nulls++
		}
	}
	var validity []byte
	if d.Nulls > 0 {
		validity = bits.Make(valid)
	}
	d.Buffers = append([][]byte{validity}, buffers...)
	return d
}

// numbered lays numbers of a width. (They never have more than MaxBytes bytes, as there are at most MaxRows, or one more offset.)
func numbered[T int | int64](list []T, width int) []byte {
	k := view.NewInk(api.MaxBytes)
	for _, x := range list {
		k.Number(uint64(x), width)
	}
	return k.Bytes()
}

// offsetWidth is how many bytes an offset, or an end, has.
const offsetWidth = 4

// nulls makes arrays of Null.
type nulls struct{}

func (m *nulls) lay(api.Value) int { return weightOfOne }

// zero is not called: a field of Null is Nullable.
func (m *nulls) zero() int { return weightOfOne }

func (m *nulls) keep() func() { return kept(m) }

func (m *nulls) data(valid []bool) api.Data {
	return api.Data{Length: len(valid), Nulls: len(valid)}
}

// flags makes arrays of Bool.
type flags struct {
	list []bool
}

func (m *flags) lay(v api.Value) int {
	m.list = append(m.list, v.Num == 1)
	return weightOfOne
}

func (m *flags) zero() int { return m.lay(api.Value{}) }

func (m *flags) keep() func() { return kept(m) }

func (m *flags) data(valid []bool) api.Data { return masked(valid, bits.Make(m.list)) }

// numbers makes arrays of numbers.
type numbers struct {
	width int
	list  []int64
}

func newNumbers(t api.Type) *numbers { return &numbers{width: kind.Width(t)} }

func (m *numbers) lay(v api.Value) int {
	// The Num of a null is 0.
	m.list = append(m.list, v.Num)
	return weightOfOne
}

func (m *numbers) zero() int { return m.lay(api.Value{}) }

func (m *numbers) keep() func() { return kept(m) }

func (m *numbers) data(valid []bool) api.Data { return masked(valid, numbered(m.list, m.width)) }

// texts makes arrays of Text and Bytes.
type texts struct {
	offsets []int
	bytes   []byte
}

func (m *texts) lay(v api.Value) int {
	if len(m.bytes)+len(v.Text) > api.MaxBytes {
		refuse(api.ErrBytes)
	}
	m.bytes = append(m.bytes, v.Text...)
	m.offsets = append(m.offsets, len(m.bytes))
	return weightOfOne + len(v.Text)
}

func (m *texts) zero() int { return m.lay(api.Value{}) }

func (m *texts) keep() func() { return kept(m) }

func (m *texts) data(valid []bool) api.Data {
	return masked(valid, numbered(m.offsets, offsetWidth), m.bytes)
}

// fixed makes arrays of Fixed.
type fixed struct {
	width int
	bytes []byte
}

func (m *fixed) lay(v api.Value) int {
	if v.Null {
		m.zero()
		return weightOfOne
	}
	m.bytes = append(m.bytes, v.Text...)
	return weightOfOne + m.width
}

func (m *fixed) zero() int {
	m.bytes = append(m.bytes, make([]byte, m.width)...)
	return weightOfOne + m.width
}

func (m *fixed) keep() func() { return kept(m) }

func (m *fixed) data(valid []bool) api.Data { return masked(valid, m.bytes) }
