package weld

import (
	"testing"

	"colonnade/api"
	"colonnade/array"
	"colonnade/build"
)

// formOfBatch brings each column of a batch into build form.
func formOfBatch(t *testing.T, s api.Schema, b api.Batch) api.Batch {
	t.Helper()
	x := api.Batch{Rows: b.Rows}
	for k, d := range b.Columns {
		form, e := build.Form(s.Fields[k], d)
		if e != api.OK {
			t.Fatalf("Form: %d", e)
		}
		x.Columns = append(x.Columns, form)
	}
	return x
}

// P15.6: Batches of Cut, whatever the number, is the form of the batch; each piece is a batch of the schema, in build form.
func TestCutAndWeld(t *testing.T) {
	c := newChance(10)
	for range 1500 {
		s := c.schema(4)
		b := c.batch(s, c.Intn(10))
		form := formOfBatch(t, s, b)
		for _, n := range []int{1, 2, 3, 1 + c.Intn(12), 1<<63 - 1} {
			l, e := Cut(s, b, n)
			if e != api.OK {
				t.Fatalf("Cut: %d", e)
			}
			for i, p := range l {
				if p.Rows != min(n, b.Rows-i*n) || len(p.Columns) != len(s.Fields) {
					t.Fatalf("Cut by %d: %d rows", n, p.Rows)
				}
				for k, d := range p.Columns {
					if !build.IsForm(s.Fields[k], d) {
						t.Fatal("a piece is not in build form")
					}
				}
			}
			welded, e := Batches(s, l)
			holdsBatch(t, "Batches of Cut", welded, e, form, api.OK)
		}
	}
}

// P15.6: welding first some and then the rest is as welding all at once.
func TestWeldInSteps(t *testing.T) {
	c := newChance(11)
	for range 1500 {
		s := c.schema(3)
		l := c.batches(s)
		all, e := Batches(s, l)
		if e != api.OK {
			t.Fatalf("Batches: %d", e)
		}
		k := c.Intn(len(l) + 1)
		first, e := Batches(s, l[:k])
		second, err := Batches(s, l[k:])
		if e != api.OK || err != api.OK {
			t.Fatalf("Batches: %d, %d", e, err)
		}
		got, e := Batches(s, append([]api.Batch{first}, l[k:]...))
		holdsBatch(t, "the first ones welded", got, e, all, api.OK)
		got, e = Batches(s, append(l[:k:k], second))
		holdsBatch(t, "the last ones welded", got, e, all, api.OK)

		f := c.field()
		arrays := c.arrays(f)
		whole, e := Arrays(f, arrays)
		if e != api.OK || array.Check(f, whole).Err != api.OK || !build.IsForm(f, whole) {
			t.Fatalf("Arrays: %v, %d", whole, e)
		}
		k = c.Intn(len(arrays) + 1)
		one, _ := Arrays(f, arrays[:k])
		two, _ := Arrays(f, arrays[k:])
		d, e := Arrays(f, []api.Data{one, two})
		holds(t, "Arrays in two steps", d, e, whole, api.OK)
	}
}

// P15.6: Even of Even is Even, and has the rows of the table.
func TestEvenOfEven(t *testing.T) {
	c := newChance(12)
	for range 1500 {
		table := api.Table{Schema: c.schema(3)}
		table.Schema.Notes = []api.Note{{Key: "k", Text: "x"}}
		table.Batches = c.batches(table.Schema)
		n := 1 + c.Intn(9)
		once, e := Even(table, n)
		if e != api.OK {
			t.Fatalf("Even: %d", e)
		}
		twice, e := Even(once, n)
		holdsTable(t, "Even of Even", twice, e, once, api.OK)
		other, e := Even(table, 1+c.Intn(9))
		if e != api.OK {
			t.Fatalf("Even: %d", e)
		}
		back, e := Even(other, n)
		holdsTable(t, "Even by another number, and again", back, e, once, api.OK)
		all, e := Batches(table.Schema, table.Batches)
		welded, err := Batches(table.Schema, once.Batches)
		holdsBatch(t, "Batches of Even", welded, err, all, e)
	}
}

// What is of one batch: Batches and Arrays of one are forms, Beside with nothing too, and a batch's columns are welded as arrays are.
func TestOfOne(t *testing.T) {
	c := newChance(13)
	for range 1000 {
		s := c.schema(4)
		b := c.batch(s, c.Intn(8))
		form := formOfBatch(t, s, b)
		got, e := Batches(s, []api.Batch{b})
		holdsBatch(t, "Batches of one", got, e, form, api.OK)
		_, got, e = Beside(s, b, api.Schema{}, api.Batch{Rows: b.Rows})
		holdsBatch(t, "Beside of one", got, e, form, api.OK)
		twice, e := Batches(s, []api.Batch{b, b})
		if e != api.OK || twice.Rows != 2*b.Rows {
			t.Fatalf("Batches: %d rows, %d", twice.Rows, e)
		}
		for k, f := range s.Fields {
			d, e := Arrays(f, []api.Data{b.Columns[k], b.Columns[k]})
			holds(t, "Arrays of a column", d, e, twice.Columns[k], api.OK)
		}
	}
}

// P15.7: all of it hangs on what is denoted alone: of arrays that lie anyhow comes what comes of their forms.
func TestDenotedAlone(t *testing.T) {
	c := newChance(14)
	for range 1500 {
		s1, b1, s2, b2 := c.pair()
		form1, form2 := formOfBatch(t, s1, b1), formOfBatch(t, s2, b2)
		_, want, err := Beside(s1, form1, s2, form2)
		_, got, e := Beside(s1, b1, s2, b2)
		holdsBatch(t, "Beside", got, e, want, err)

		l := append(c.batches(s1), b1)
		var forms []api.Batch
		for _, b := range l {
			forms = append(forms, formOfBatch(t, s1, b))
		}
		want, err = Batches(s1, forms)
		got, e = Batches(s1, l)
		holdsBatch(t, "Batches", got, e, want, err)
		n := 1 + c.Intn(5)
		pieces, err := Cut(s1, form1, n)
		cut, e := Cut(s1, b1, n)
		holdsBatches(t, "Cut", cut, e, pieces, err)
		table, err := Even(api.Table{Schema: s1, Batches: forms}, n)
		even, e := Even(api.Table{Schema: s1, Batches: l}, n)
		holdsTable(t, "Even", even, e, table, err)
	}
}
