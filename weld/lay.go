package weld

import (
	"iter"

	"colonnade/api"
	"colonnade/build"
)

// pile is a batch in the making.
type pile struct {
	rows    int
	columns []*build.Builder
}

// newPile begins a batch of fields that may be.
func newPile(fields []api.Field) *pile {
	p := &pile{columns: make([]*build.Builder, len(fields))}
	for k, f := range fields {
		p.columns[k], _ = build.New(f)
	}
	return p
}

// add lays a row behind the others, and tells what build.Batch would tell of it. (That is not asked itself, as it must be handed all rows at once: they may weigh far more than the batch that they are refused for.)
func (p *pile) add(r row) api.Errno {
	if p.rows == api.MaxRows {
		// The columns would tell it too, if there are any.
		return api.ErrRows
	}
	for k, c := range p.columns {
		if e := c.Add(r.value(k)); e != api.OK {
			return e
		}
	}
	p.rows++
	return api.OK
}

// done tells the batch, and ends the making.
func (p *pile) done() api.Batch {
	b := api.Batch{Rows: p.rows, Columns: make([]api.Data, len(p.columns))}
	for k, c := range p.columns {
		b.Columns[k], _ = c.Done()
	}
	return b
}

// laid lays rows as one batch.
func laid(fields []api.Field, rows iter.Seq[row]) (api.Batch, api.Errno) {
	p := newPile(fields)
	for r := range rows {
		if e := p.add(r); e != api.OK {
			return api.Batch{}, e
		}
	}
	return p.done(), api.OK
}

// pieces lays rows as batches of n, the last one of those that are left.
func pieces(fields []api.Field, rows iter.Seq[row], n int) ([]api.Batch, api.Errno) {
	var list []api.Batch
	p := newPile(fields)
	for r := range rows {
		if e := p.add(r); e != api.OK {
			return nil, e
		}
		if p.rows == n {
			list = append(list, p.done())
			p = newPile(fields)
		}
	}
	if p.rows > 0 {
		list = append(list, p.done())
	}
	return list, api.OK
}
