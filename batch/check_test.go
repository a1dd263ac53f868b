package batch

import (
	"slices"
	"testing"

	"colonnade/api"
)

// wrongSchema is a schema that may not be.
var wrongSchema = api.Schema{Fields: []api.Field{{Name: "a", Type: api.Type{Kind: api.KindNone}}}}

// bools is an array of Bool of n rows.
func bools(n int) api.Data {
	return api.Data{Length: n, Buffers: [][]byte{nil, make([]byte, (max(n, 0)+7)/8)}}
}

// P11.1: what is told, and what is told first.
func TestCheck(t *testing.T) {
	two := schema(t, "a bool, b struct(x list(i int8))")
	items := api.Data{Length: 2, Buffers: [][]byte{nil, {1, 2}}}
	lists := api.Data{Length: 1, Buffers: [][]byte{nil, modelInts(0, 2)}, Children: []api.Data{items}}
	structs := api.Data{Length: 1, Buffers: [][]byte{nil}, Children: []api.Data{lists}}
	deep := api.Data{Length: 1, Buffers: [][]byte{nil}, Children: []api.Data{{Length: 1, Buffers: lists.Buffers, Children: []api.Data{{Length: 2, Nulls: 1, Buffers: items.Buffers}}}}}
	for name, x := range map[string]struct {
		s    api.Schema
		b    api.Batch
		want api.Fault
	}{
		"fine":                          {two, of(1, bools(1), structs), api.Fault{}},
		"no columns":                    {api.Schema{}, of(4096), api.Fault{}},
		"no columns, nil":               {api.Schema{}, api.Batch{}, api.Fault{}},
		"as many rows as may be":        {schema(t, "a bool"), of(4096, bools(4096)), api.Fault{}},
		"no schema":                     {wrongSchema, of(-1), api.Fault{Err: api.ErrType}},
		"rows below 0":                  {api.Schema{}, of(-1), api.Fault{Err: api.ErrColumns}},
		"rows below 0, and the columns": {schema(t, "a bool"), of(-1, bools(-1)), api.Fault{Err: api.ErrColumns}},
		"rows above all":                {api.Schema{}, of(4097), api.Fault{Err: api.ErrColumns}},
		"rows above all, the columns":   {schema(t, "a bool"), of(4097, bools(4097)), api.Fault{Err: api.ErrColumns}},
		"a column more":                 {schema(t, "a bool"), of(1, bools(1), bools(1)), api.Fault{Err: api.ErrColumns}},
		"a column less":                 {two, of(1, bools(1)), api.Fault{Err: api.ErrColumns}},
		"another number ahead of all":   {two, of(1, bools(2)), api.Fault{Err: api.ErrColumns}},
		"a Length":                      {two, of(1, bools(1), api.Data{Length: 2}), api.Fault{Err: api.ErrColumns, At: 1}},
		"the first Length":              {two, of(1, bools(0), api.Data{Length: 2}), api.Fault{Err: api.ErrColumns}},
		"a Length ahead of an array":    {two, of(1, api.Data{Length: 1}, api.Data{Length: 2}), api.Fault{Err: api.ErrColumns, At: 1}},
		"an array":                      {two, of(1, api.Data{Length: 1}, api.Data{Length: 1}), api.Fault{Err: api.ErrShape, Path: []int{0}}},
		"the second array":              {two, of(1, bools(1), api.Data{Length: 1}), api.Fault{Err: api.ErrShape, Path: []int{1}}},
		"an array within":               {two, of(1, bools(1), deep), api.Fault{Err: api.ErrLength, At: 1, Path: []int{1, 0, 0}}},
	} {
		if got := Check(x.s, x.b); !sameFault(got, x.want) {
			t.Errorf("%s: %+v", name, got)
		}
	}
}

// P11.1: of any batches, by the chapter's words.
func TestCheckAny(t *testing.T) {
	c := newChance(1)
	fine := 0
	for range 3000 {
		s := c.schema(3)
		b := c.batch(s, c.Intn(6))
		for range c.Intn(2) * c.Intn(3) {
			c.hurtBatch(&b)
		}
		want := modelCheck(s, b)
		if want.Err == api.OK {
			fine++
		}
		if got := Check(s, b); !sameFault(got, want) {
			t.Fatalf("%s: %+v; wanted %+v", printed(s), got, want)
		}
	}
	if fine < 1000 || fine > 2800 {
		t.Errorf("%d batches are fine", fine)
	}
}

// hurtBatch does one thing to a batch that may keep it from being one.
func (c *chance) hurtBatch(b *api.Batch) {
	n := len(b.Columns)
	switch {
	case c.Intn(8) == 0:
		b.Rows = c.odd()
	case n == 0 || c.Intn(8) == 0:
		b.Columns = append(slices.Clone(b.Columns), api.Data{Length: b.Rows})
	case c.Intn(8) == 0:
		b.Columns = b.Columns[:n-1]
	default:
		c.hurt(&b.Columns[c.Intn(n)])
	}
}
