package stream

import (
	"colonnade/api"
	"colonnade/array"
	"colonnade/batch"
	"colonnade/build"
	"colonnade/dict"
)

// draft is the messages of one batch, apart from the stream till none of them is refused.
type draft struct {
	option   api.Option
	book     *dict.Book // what whoever reads the messages, too, knows
	messages [][]byte
}

// add lays a message behind the others.
func (d *draft) add(h api.Head, body []byte) { d.messages = append(d.messages, framed(h, body)) }

// tellWithin tells the dictionaries of an array in build form and of all within it, a field's ahead of its children's.
func (d *draft) tellWithin(f api.Field, a *api.Data) api.Errno {
	if f.Type.Kind == api.Dict {
		return d.tell(f, a)
	}
	// The arrays of the type's children are the last ones: a Runs has its ends ahead of them.
	parts := a.Children[len(a.Children)-len(f.Type.Fields):]
	for k, child := range f.Type.Fields {
		if e := d.tellWithin(child, &parts[k]); e != api.OK {
			return e
		}
	}
	return api.OK
}

// tell makes the book know the dictionary of a Dict array, adds the message that tells of it, and lets the array name the book's values.
func (d *draft) tell(f api.Field, a *api.Data) api.Errno {
	id := f.Type.ID
	told, how, places, e := d.book.Tell(id, valuesOf(f.Type.Fields[0], a.Dict[0]), d.option.Delta)
	if e != api.OK {
		return e
	}
	if how != dict.Nothing {
		h, body, e := batch.SplitDict(f, told, how == dict.New, d.option.Press)
		if e != api.OK {
			return e
		}
		d.add(h, body)
	}
	known, e := d.book.Get(id)
	a.Buffers, a.Dict = renamed(f, *a, places), []api.Data{known}
	return e
}

// valuesOf tells the values of an array of a field.
func valuesOf(f api.Field, d api.Data) []api.Value {
	a, _ := array.Open(f, d)
	return a.Values()
}

// renamed tells the buffers of a Dict array in build form whose indices are other numbers: places says which.
func renamed(f api.Field, d api.Data, places []int) [][]byte {
	// The indices lie as numbers do, under the same validity: so they are read and built as such.
	numbers := api.Field{Name: f.Name, Nullable: f.Nullable, Type: api.Type{Kind: f.Type.Index}}
	l := valuesOf(numbers, api.Data{Length: d.Length, Nulls: d.Nulls, Buffers: d.Buffers})
	for i, v := range l {
		if !v.Null {
			l[i].Num = int64(places[v.Num])
		}
	}
	built, _, _ := build.Of(numbers, l)
	return built.Buffers
}
