package weld

import (
	"strings"
	"testing"

	"colonnade/api"
)

// P15.1: any arrays, however they lie.
func TestAnyArrays(t *testing.T) {
	c := newChance(1)
	for range 4000 {
		f := c.field()
		l := c.arrays(f)
		d, e := Arrays(f, l)
		want, err := modelArrays(f, l)
		holds(t, "Arrays", d, e, want, err)
	}
}

// P15.2, P15.4, P15.5: any batches.
func TestAnyBatches(t *testing.T) {
	c := newChance(2)
	for range 2500 {
		s := c.schema(4)
		l := c.batches(s)
		b, e := Batches(s, l)
		whole, err := modelBatches(s, l)
		holdsBatch(t, "Batches", b, e, whole, err)

		b = c.batch(s, c.Intn(9))
		n := c.number()
		cut, e := Cut(s, b, n)
		pieces, err := modelCut(s, b, n)
		holdsBatches(t, "Cut", cut, e, pieces, err)

		table := api.Table{Schema: s, Batches: l}
		even, e := Even(table, n)
		want, err := modelEven(table, n)
		holdsTable(t, "Even", even, e, want, err)
	}
}

// number makes a number of rows, nearly always one that may be.
func (c *chance) number() int {
	if c.Intn(8) == 0 {
		return c.odd(0)
	}
	return 1 + c.Intn(6)
}

// pair makes two schemas and their batches, which mostly can stand side by side.
func (c *chance) pair() (s1 api.Schema, b1 api.Batch, s2 api.Schema, b2 api.Batch) {
	s1 = c.schema(4)
	if c.Intn(2) == 0 {
		c.ids = 0
	}
	s2 = c.schemaFrom([]rune{'a', 'w', 'w', 'w'}[c.Intn(4)], 4)
	n := c.Intn(6)
	return s1, c.batch(s1, n), s2, c.batch(s2, n+c.Intn(8)/7)
}

// P15.3: any two batches.
func TestAnyBeside(t *testing.T) {
	c := newChance(3)
	told := map[api.Errno]int{}
	for range 4000 {
		s1, b1, s2, b2 := c.pair()
		s, b, e := Beside(s1, b1, s2, b2)
		both, want, err := modelBeside(s1, b1, s2, b2)
		holdsBatch(t, "Beside", b, e, want, err)
		if !sameSchema(s, both) {
			t.Fatalf("Beside: the schema %v, not %v", s, both)
		}
		told[e]++
	}
	for _, e := range []api.Errno{api.OK, api.ErrUnlike, api.ErrTwice, api.ErrDict} {
		if told[e] < 10 {
			t.Errorf("the error %d came only %d times", e, told[e])
		}
	}
}

// hurtField makes at times a field that may not be.
func (c *chance) hurtField(f api.Field) api.Field {
	if c.Intn(12) == 0 {
		f.Type.Kind = []int{0, 21, -1, api.Fixed}[c.Intn(4)]
	}
	return f
}

// hurtBatch does one thing to a batch, or to its schema, that may make it none.
func (c *chance) hurtBatch(s *api.Schema, b *api.Batch) {
	k := c.Intn(len(b.Columns) + 1)
	switch c.Intn(8) {
	case 0:
		b.Rows = c.odd(b.Rows)
	case 1:
		b.Columns = b.Columns[:k]
	case 2:
		b.Columns = append(b.Columns[:k:k], api.Data{Length: b.Rows})
	case 3:
		if k < len(s.Fields) {
			s.Fields[k] = c.hurtField(s.Fields[k])
		}
	default:
		if k < len(b.Columns) {
			c.hurt(&b.Columns[k])
		}
	}
}

// Whatever is handed in, several faults at once: which is told first.
func TestAnyFaults(t *testing.T) {
	c := newChance(4)
	for range 5000 {
		f := c.field()
		l := c.arrays(f)
		for i := range l {
			if c.Intn(3) == 0 {
				c.hurt(&l[i])
			}
		}
		f = c.hurtField(f)
		d, e := Arrays(f, l)
		want, err := modelArrays(f, l)
		holds(t, "Arrays", d, e, want, err)
	}
}

func TestAnyBatchFaults(t *testing.T) {
	c := newChance(5)
	for range 5000 {
		s := c.schema(3)
		l := append(c.batches(s), c.batch(s, c.Intn(6)))
		for range 1 + c.Intn(2) {
			c.hurtBatch(&s, &l[c.Intn(len(l))])
		}
		got, e := Batches(s, l)
		want, err := modelBatches(s, l)
		holdsBatch(t, "Batches", got, e, want, err)

		n := c.number()
		cut, e := Cut(s, l[0], n)
		pieces, err := modelCut(s, l[0], n)
		holdsBatches(t, "Cut", cut, e, pieces, err)

		table := api.Table{Schema: s, Batches: l}
		even, e := Even(table, n)
		all, err := modelEven(table, n)
		holdsTable(t, "Even", even, e, all, err)
	}
}

func TestAnyBesideFaults(t *testing.T) {
	c := newChance(6)
	for range 5000 {
		s1, b1, s2, b2 := c.pair()
		for range 1 + c.Intn(2) {
			if c.Intn(2) == 0 {
				c.hurtBatch(&s1, &b1)
			} else {
				c.hurtBatch(&s2, &b2)
			}
		}
		s, b, e := Beside(s1, b1, s2, b2)
		both, want, err := modelBeside(s1, b1, s2, b2)
		holdsBatch(t, "Beside", b, e, want, err)
		if !sameSchema(s, both) {
			t.Fatalf("Beside: the schema %v, not %v", s, both)
		}
	}
}

// large makes an array of a kind whose rows meet the limits soon.
func (c *chance) large(t *testing.T, f api.Field, rows int) api.Data {
	var l []api.Value
	for range rows {
		var v api.Value
		switch f.Type.Kind {
		case api.Text:
			v.Text = strings.Repeat("x", c.Intn(2)*c.Intn(2000))
		case api.List:
			v.List = make([]api.Value, c.Intn(2)*c.Intn(120))
		case api.Dict:
			v.Num = int64(c.Intn(2000))
		}
		l = append(l, v)
	}
	if f.Type.Kind == api.Choice {
		return again(rows, c.Intn(1000))
	}
	return formOf(t, f, l)
}

// Which limit is met first, of arrays and batches that are large together.
func TestAnyLimits(t *testing.T) {
	c := newChance(7)
	s := schema(t, "a text, b list(i int8), c dict(0, int8, w int16), d choice(t text)")
	told := map[api.Errno]int{}
	for range 120 {
		c.Shuffle(len(s.Fields), func(i, j int) { s.Fields[i], s.Fields[j] = s.Fields[j], s.Fields[i] })
		var l []api.Batch
		for range c.Intn(80) {
			b := api.Batch{Rows: c.Intn(8)}
			for _, f := range s.Fields {
				b.Columns = append(b.Columns, c.large(t, f, b.Rows))
			}
			l = append(l, b)
		}
		b, e := Batches(s, l)
		want, err := modelBatches(s, l)
		holdsBatch(t, "Batches", b, e, want, err)
		told[e]++
		table, n := api.Table{Schema: s, Batches: l}, 1+c.Intn(250)
		even, e := Even(table, n)
		all, err := modelEven(table, n)
		holdsTable(t, "Even", even, e, all, err)
		told[e]++
		for k, f := range s.Fields {
			var column []api.Data
			for _, b := range l {
				column = append(column, b.Columns[k])
			}
			d, e := Arrays(f, column)
			one, err := modelArrays(f, column)
			holds(t, "Arrays", d, e, one, err)
			told[e]++
		}
	}
	for _, e := range []api.Errno{api.OK, api.ErrRows, api.ErrBytes, api.ErrIndices} {
		if told[e] < 10 {
			t.Errorf("the error %d came only %d times", e, told[e])
		}
	}
}
