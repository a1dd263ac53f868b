package stats

import (
	"slices"
	"testing"

	"colonnade/api"
	"colonnade/array"
	"colonnade/expr"
)

// P23.5: what Merge tells of the stats of two arrays, or of more, in whatever order, holds of all their values.
func TestMergeHolds(t *testing.T) {
	c := newChance(9)
	has := 0
	for range 6000 {
		f := c.field(t, "a")
		var all []api.Value
		var l []api.Stat
		for range 2 + c.Intn(3) {
			part := c.column(f, c.Intn(4))
			all = append(all, part...)
			x, e := Of(f, c.anyhow(t, f, part))
			if e != api.OK {
				t.Fatalf("Of: %d", e)
			}
			l = append(l, x)
		}
		c.Shuffle(len(l), func(i, j int) { l[i], l[j] = l[j], l[i] })
		sum := l[0]
		for _, x := range l[1:] {
			var e api.Errno
			if sum, e = Merge(f, sum, x); e != api.OK || !modelIsStat(f, sum) {
				t.Fatalf("Merge: %s, %d", told(sum), e)
			}
		}
		holds(t, f, sum, all)
		if sum.Has {
			has++
		}
	}
	if has < 2000 {
		t.Errorf("only %d with bounds", has)
	}
}

// batch makes a batch of so many rows of a schema, which lies anyhow.
func (c *chance) batch(t testing.TB, s api.Schema, n int) (api.Batch, [][]api.Value) {
	t.Helper()
	b := api.Batch{Rows: n}
	var columns [][]api.Value
	for _, f := range s.Fields {
		l := c.column(f, n)
		columns = append(columns, l)
		b.Columns = append(b.Columns, c.anyhow(t, f, l))
	}
	return b, columns
}

// meets tells whether a filter is true at some row of a batch, or is refused at one.
func meets(t testing.TB, s api.Schema, b api.Batch, e api.Expr) (is, refused bool) {
	t.Helper()
	d, x := expr.Eval(s, b, e)
	if x.Err != api.OK {
		return false, true
	}
	f, _ := expr.Type(s, e)
	a, _ := array.Open(f, d)
	return slices.ContainsFunc(a.Values(), func(v api.Value) bool { return !v.Null && v.Num == 1 }), false
}

// mustMay tells whether May must be true of a filter over a batch; one row is asked by itself, as one ahead of it may be refused.
func mustMay(t testing.TB, s api.Schema, columns [][]api.Value, n int, e api.Expr) bool {
	t.Helper()
	for i := range n {
		b := api.Batch{Rows: 1}
		for k, f := range s.Fields {
			b.Columns = append(b.Columns, formOf(t, f, columns[k][i:i+1]))
		}
		if is, refused := meets(t, s, b, e); is || refused {
			return true
		}
	}
	return false
}

// P23.5: a filter that is true at some row of a batch, or refused there, may be true by the stats of its columns, and by any Merge of them with others.
func TestMayHolds(t *testing.T) {
	c := newChance(10)
	must, mayNot, wider := 0, 0, 0
	for range 12000 {
		s := c.schema(t, 3)
		e := maker{c, t, s}.truth(3)
		n := 1 + c.Intn(3)
		b, columns := c.batch(t, s, n)
		var l, merged []api.Stat
		for k, f := range s.Fields {
			x, err := Of(f, b.Columns[k])
			if err != api.OK {
				t.Fatalf("Of: %d", err)
			}
			y := c.stat(f)
			for y.Rows+x.Rows > maxRows {
				y = c.stat(f)
			}
			z, err := Merge(f, x, y)
			if err != api.OK {
				t.Fatalf("Merge: %d", err)
			}
			l, merged = append(l, x), append(merged, z)
		}
		should := mustMay(t, s, columns, n, e)
		may, x := May(s, e, l)
		mayWider, y := May(s, e, merged)
		if x != api.OK || y != api.OK || should && !may || may && !mayWider {
			text, _ := expr.Print(e)
			t.Fatalf("%s of %v: should %v, may %v, %d, of more %v, %d", text, columns, should, may, x, mayWider, y)
		}
		if should {
			must++
		}
		if !may {
			mayNot++
		}
		if mayWider && !may {
			wider++
		}
	}
	if must < 3000 || mayNot < 3000 || wider < 500 {
		t.Errorf("must %d, may not %d, may by more alone %d", must, mayNot, wider)
	}
}
