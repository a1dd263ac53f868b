package pick

import (
	"testing"

	"colonnade/api"
	"colonnade/array"
	"colonnade/build"
)

// P14.1 to P14.3: any arrays, however they lie, by any numbers, masks and bounds.
func TestAnyArrays(t *testing.T) {
	c := newChance(1)
	told := map[api.Errno]int{}
	for range 4000 {
		f := c.field()
		d := c.array(f, c.Intn(10))
		by := c.index(c.numbers(d.Length))
		got, e := Take(f, d, by)
		want, err := modelTake(f, d, by)
		holds(t, "Take", got, e, want, err)
		told[e]++

		mask := c.array(maskField, d.Length+c.Intn(2)*c.Intn(2))
		got, e = Filter(f, d, mask)
		want, err = modelFilter(f, d, mask)
		holds(t, "Filter", got, e, want, err)
		told[e]++

		from, n := c.Intn(d.Length+1), c.Intn(d.Length+2)
		if c.Intn(8) == 0 {
			from, n = c.odd(d.Length), c.odd(d.Length)
		}
		got, e = Cut(f, d, from, n)
		want, err = modelCut(f, d, from, n)
		holds(t, "Cut", got, e, want, err)
	}
	for _, e := range []api.Errno{api.OK, api.ErrRange, api.ErrValue, api.ErrUnlike} {
		if told[e] < 50 {
			t.Errorf("the error %d came only %d times", e, told[e])
		}
	}
}

// P14.4, P14.5: any batches.
func TestAnyBatches(t *testing.T) {
	c := newChance(2)
	told := map[api.Errno]int{}
	for range 2500 {
		s := c.schema(4)
		b := c.batch(s, c.Intn(8))
		rows := c.numbers(b.Rows)
		got, e := TakeRows(s, b, rows)
		want, err := modelTakeRows(s, b, rows)
		holdsBatch(t, "TakeRows", got, e, want, err)
		told[e]++

		mask := c.array(maskField, b.Rows+c.Intn(2)*c.Intn(2))
		got, e = FilterRows(s, b, mask)
		want, err = modelFilterRows(s, b, mask)
		holdsBatch(t, "FilterRows", got, e, want, err)
		told[e]++
	}
	for _, e := range []api.Errno{api.OK, api.ErrRange, api.ErrValue, api.ErrUnlike} {
		if told[e] < 50 {
			t.Errorf("the error %d came only %d times", e, told[e])
		}
	}
}

// hurtField makes at times a field that may not be.
func (c *chance) hurtField(f api.Field) api.Field {
	if c.Intn(12) == 0 {
		f.Type.Kind = []int{0, 21, -1, api.Fixed}[c.Intn(4)]
	}
	return f
}

// Whatever is handed in, hurt arrays, fields and batches, several at once: which fault is told first.
func TestAnyFaults(t *testing.T) {
	c := newChance(3)
	for range 6000 {
		f := c.field()
		d := c.array(f, c.Intn(6))
		by, mask := c.index(c.numbers(d.Length)), c.array(maskField, d.Length+c.Intn(5)/4)
		for _, x := range []*api.Data{&d, &by, &mask} {
			if c.Intn(3) == 0 {
				c.hurt(x)
			}
		}
		f = c.hurtField(f)
		got, e := Take(f, d, by)
		want, err := modelTake(f, d, by)
		holds(t, "Take", got, e, want, err)
		got, e = Filter(f, d, mask)
		want, err = modelFilter(f, d, mask)
		holds(t, "Filter", got, e, want, err)
		from, n := c.Intn(8)-1, c.Intn(8)-1
		got, e = Cut(f, d, from, n)
		want, err = modelCut(f, d, from, n)
		holds(t, "Cut", got, e, want, err)
	}
}

// hurtBatch does one thing to a batch, or to its mask, that may make it none of its schema.
func (c *chance) hurtBatch(s *api.Schema, b *api.Batch, mask *api.Data) {
	k := c.Intn(len(b.Columns) + 1)
	switch c.Intn(8) {
	case 0:
		b.Rows = c.odd(b.Rows)
	case 1:
		b.Columns = b.Columns[:k]
	case 2:
		b.Columns = append(b.Columns[:k:k], api.Data{Length: b.Rows})
	case 3:
		if k < len(s.Fields) {
			s.Fields[k] = c.hurtField(s.Fields[k])
		}
	case 4:
		c.hurt(mask)
	default:
		if k < len(b.Columns) {
			c.hurt(&b.Columns[k])
		}
	}
}

func TestAnyBatchFaults(t *testing.T) {
	c := newChance(4)
	for range 6000 {
		s := c.schema(3)
		b := c.batch(s, c.Intn(6))
		rows, mask := c.numbers(b.Rows), c.array(maskField, b.Rows+c.Intn(5)/4)
		for range 1 + c.Intn(2) {
			c.hurtBatch(&s, &b, &mask)
		}
		got, e := TakeRows(s, b, rows)
		want, err := modelTakeRows(s, b, rows)
		holdsBatch(t, "TakeRows", got, e, want, err)
		got, e = FilterRows(s, b, mask)
		want, err = modelFilterRows(s, b, mask)
		holdsBatch(t, "FilterRows", got, e, want, err)
	}
}

// rising is the numbers from one on, so many.
func rising(from, n int) []int {
	var l []int
	for i := range n {
		l = append(l, from+i)
	}
	return l
}

// P14.6: Take of all numbers is the form; Filter and Cut are Takes; Take of a Take is a Take; all of it is an array of its field, in build form, and hangs on what the array denotes alone.
func TestFollows(t *testing.T) {
	c := newChance(5)
	for range 1500 {
		f := c.field()
		d := c.array(f, 1+c.Intn(9))
		form, e := build.Form(f, d)
		if e != api.OK {
			t.Fatalf("Form: %d", e)
		}
		all, e := Take(f, d, index(t, rising(0, d.Length)...))
		holds(t, "Take of all", all, e, form, api.OK)

		first, second := make([]int, 1+c.Intn(6)), make([]int, c.Intn(6))
		for i := range first {
			first[i] = c.Intn(d.Length)
		}
		through := make([]int, len(second))
		for i := range second {
			second[i] = c.Intn(len(first))
			through[i] = first[second[i]]
		}
		once, e := Take(f, d, index(t, first...))
		if e != api.OK || array.Check(f, once).Err != api.OK || !build.IsForm(f, once) {
			t.Fatalf("Take: %v, %d", once, e)
		}
		twice, e := Take(f, once, index(t, second...))
		straight, err := Take(f, form, c.index(through))
		holds(t, "Take of a Take", twice, e, straight, err)

		from := c.Intn(d.Length + 1)
		n := c.Intn(d.Length - from + 1)
		cut, e := Cut(f, d, from, n)
		straight, err = Take(f, form, index(t, rising(from, n)...))
		holds(t, "Cut", cut, e, straight, err)
		again, e := Cut(f, form, from, n)
		holds(t, "Cut of the form", again, e, straight, err)

		follows(t, c, f, d, form)
	}
}

// follows holds Filter of an array against Take of its form.
func follows(t *testing.T, c *chance, f api.Field, d, form api.Data) {
	t.Helper()
	mask := c.array(maskField, d.Length)
	values, _ := denoted(maskField, mask)
	var on []int
	for i, v := range values {
		if !v.Null && v.Num == 1 {
			on = append(on, i)
		}
	}
	left, e := Filter(f, d, mask)
	straight, err := Take(f, form, c.index(on))
	holds(t, "Filter", left, e, straight, err)
	other, e := Filter(f, form, formed(t, maskField, values))
	holds(t, "Filter of the form", other, e, straight, err)
}

// P14.6, of batches: columns are taken and filtered as arrays are.
func TestFollowsOfBatches(t *testing.T) {
	c := newChance(6)
	for range 800 {
		s := c.schema(4)
		b := c.batch(s, 1+c.Intn(6))
		rows := make([]int, c.Intn(6))
		for i := range rows {
			rows[i] = c.Intn(b.Rows)
		}
		mask := c.array(maskField, b.Rows)
		taken, e := TakeRows(s, b, rows)
		left, err := FilterRows(s, b, mask)
		if e != api.OK || err != api.OK || taken.Rows != len(rows) || len(taken.Columns) != len(s.Fields) || len(left.Columns) != len(s.Fields) {
			t.Fatalf("TakeRows: %d, FilterRows: %d", e, err)
		}
		for k, f := range s.Fields {
			d, e := Take(f, b.Columns[k], index(t, rows...))
			holds(t, "Take of a column", d, e, taken.Columns[k], api.OK)
			d, e = Filter(f, b.Columns[k], mask)
			holds(t, "Filter of a column", d, e, left.Columns[k], api.OK)
			if d.Length != left.Rows {
				t.Fatalf("FilterRows: %d rows, not %d", left.Rows, d.Length)
			}
		}
	}
}
