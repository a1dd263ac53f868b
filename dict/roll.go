package dict

import (
	"maps"
	"slices"
	"strings"

	"colonnade/api"
	"colonnade/value"
)

// roll is values by their numbers, and their places by their hash.
type roll struct {
	values []api.Value
	places map[uint64][]int // of each hash the places of the unlike values that have it; no list is written into, as copies of a roll share it
}

func newRoll() *roll { return &roll{places: map[uint64][]int{}} }

// copied is a roll that has the same values, and grows by itself.
func (r *roll) copied() *roll {
	return &roll{values: slices.Clone(r.values), places: maps.Clone(r.places)}
}

// place tells the least number of a value, which has that hash; -1: it is not there.
func (r *roll) place(hash uint64, v api.Value) int {
	for _, k := range r.places[hash] {
		if value.Same(r.values[k], v) {
			return k
		}
	}
	return -1
}

// add lays a value, which has that hash, behind the others.
func (r *roll) add(hash uint64, v api.Value) {
	// One that is there already keeps its place.
	if r.place(hash, v) < 0 {
		r.places[hash] = append(slices.Clip(r.places[hash]), len(r.values))
	}
	r.values = append(r.values, v)
}

// lay lays values behind the others.
func (r *roll) lay(values []api.Value) {
	for _, v := range values {
		r.add(value.Hash(v), v)
	}
}

// copiedValues tells the same values in memory of their own.
func copiedValues(list []api.Value) []api.Value {
	list = slices.Clone(list)
	for i, v := range list {
		list[i].Text = strings.Clone(v.Text)
		list[i].List = copiedValues(v.List)
	}
	return list
}
