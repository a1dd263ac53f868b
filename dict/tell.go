package dict

import (
	"slices"

	"colonnade/api"
	"colonnade/value"
)

// Tell makes a dictionary know some values: what a reader is to be told, how, and the values' places.
func (b *Book) Tell(id int, l []api.Value, delta bool) (api.Data, int, []int, api.Errno) {
	f, ok := b.fields[id]
	if !ok {
		return api.Data{}, Nothing, nil, api.ErrID
	}
	if e := wrongValues(childOf(f), l); e != api.OK {
		return api.Data{}, Nothing, nil, e
	}
	known, isKnown := b.known[id]
	if !isKnown {
		known = newRoll()
	}
	w := wishOf(known, l)
	if isKnown && len(w.fresh) == 0 {
		none, e := formOf(f, nil)
		return none, Nothing, w.behind(), e
	}
	if whole, ok := dictionaryOf(f, slices.Concat(known.values, w.fresh)); ok {
		b.learn(id, copiedValues(w.fresh))
		if !isKnown || !delta {
			return whole, Anew, w.behind(), api.OK
		}
		// The new ones can be built, as the whole can.
		part, e := formOf(f, w.fresh)
		return part, New, w.behind(), e
	}
	if whole, ok := dictionaryOf(f, w.unlike); ok {
		b.forget(id)
		b.learn(id, copiedValues(w.unlike))
		return whole, Anew, w.numbers, api.OK
	}
	return api.Data{}, Nothing, nil, api.ErrIndices
}

// wrongValues tells what keeps values from being asked for in a dictionary of a field.
func wrongValues(f api.Field, l []api.Value) api.Errno {
	if len(l) > api.MaxRows {
		return api.ErrRows
	}
	for _, v := range l {
		if e := value.Fits(f, v); e != api.OK {
			return e
		}
	}
	return api.OK
}

// dictionaryOf tells the build form of values as a Dict field's dictionary, if they can be one and the indices have numbers for them all.
func dictionaryOf(f api.Field, values []api.Value) (api.Data, bool) {
	if len(values) > numbersOf(f.Type.Index) {
		return api.Data{}, false
	}
	d, e := formOf(f, values)
	return d, e == api.OK
}

// numbersOf tells how many numbers from 0 on a kind of indices has; of the wider kinds that it has more than a dictionary has values.
func numbersOf(index int) int {
	switch index {
	case api.Int8:
		return 1 << 7
	case api.Uint8:
		return 1 << 8
	}
	return 1 << 15
}

// wish is what a list of values asks of a dictionary. It holds the values as they were handed in: copies are made of those alone that are kept, as all of them together may be far too heavy.
type wish struct {
	unlike  []api.Value // the list's unlike values, in the order in which they come first
	fresh   []api.Value // those of them that are new
	places  []int       // of each unlike one its place in the dictionary with the new ones behind it
	numbers []int       // of each value of the list which of the unlike ones it is
}

// wishOf tells what a list asks of a dictionary that has the values of known.
func wishOf(known *roll, l []api.Value) wish {
	var w wish
	heard := newRoll()
	for _, v := range l {
		hash := value.Hash(v)
		n := heard.place(hash, v)
		if n < 0 {
			n = len(heard.values)
			heard.add(hash, v)
			w.places = append(w.places, w.placeBehind(known, hash, v))
		}
		w.numbers = append(w.numbers, n)
	}
	w.unlike = heard.values
	return w
}

// placeBehind tells the place of the next unlike value: one that known has not is new, and stands behind it.
func (w *wish) placeBehind(known *roll, hash uint64, v api.Value) int {
	k := known.place(hash, v)
	if k < 0 {
		k = len(known.values) + len(w.fresh)
		w.fresh = append(w.fresh, v)
	}
	return k
}

// behind tells the place of each value of the list in the dictionary with the new ones behind it.
func (w *wish) behind() []int {
	list := make([]int, len(w.numbers))
	for i, n := range w.numbers {
		list[i] = w.places[n]
	}
	return list
}
