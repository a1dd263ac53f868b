package scan

import (
	"slices"
	"testing"

	"colonnade/api"
	"colonnade/build"
	"colonnade/expr"
	"colonnade/kind"
)

// P24.1: whatever file, columns, filter and number of workers, New, Schema, Blocks, All and Table answer what the chapter's words say.
func TestAny(t *testing.T) {
	c := newChance(2)
	seen := map[api.Errno]int{}
	passed, given, faults := 0, 0, 0
	for range 2000 {
		table := c.table(t, 4)
		b := putWith(t, table, c.option(), c.extra(table))
		for c.in(5) {
			c.hurtFile(t, b)
		}
		f := opened(t, b)
		m := model{f, c.columns(table.Schema), maker{c, t, table.Schema}.filter()}
		workers := 1 + c.Intn(8)
		if c.in(30) {
			workers = one(c, []int{0, -1, 9, 1 << 40})
		}
		l, x := m.holds(t, workers)
		seen[x.Err]++
		given += len(l)
		if m.wrong(workers).Err == api.OK {
			passed += f.Len() - len(m.blocks())
			if x.Err != api.OK {
				faults++
			}
		}
	}
	for _, e := range []api.Errno{api.OK, api.ErrColumn, api.ErrTwice, api.ErrType, api.ErrArg, api.ErrExpr, api.ErrArgs, api.ErrValue, api.ErrZero, api.ErrOverflow, api.ErrBlock} {
		if seen[e] == 0 {
			t.Errorf("the error %d is never told", e)
		}
	}
	if passed < 300 || given < 1200 || faults < 100 {
		t.Errorf("%d blocks are passed over, %d batches given, %d faults", passed, given, faults)
	}
	t.Log(seen, passed, given, faults)
}

// P24.1: for every number of workers the same, of files of many blocks, too.
func TestWorkers(t *testing.T) {
	c := newChance(3)
	given, faults := 0, 0
	for range 60 {
		table := c.table(t, 3)
		for len(table.Batches) == 0 {
			table = c.table(t, 3)
		}
		for len(table.Batches) < 20+c.Intn(60) {
			table.Batches = append(table.Batches, one(c, table.Batches))
		}
		b := putWith(t, table, c.option(), modelStatistics(table))
		for c.in(2) {
			c.hurtFile(t, b)
		}
		m := model{opened(t, b), c.columns(table.Schema), maker{c, t, table.Schema}.filter()}
		if m.wrong(1).Err != api.OK {
			continue
		}
		l, x := m.all(t)
		want := liesList(l, x)
		given += len(l)
		if x.Err != api.OK {
			faults++
		}
		for workers := 1; workers <= 8; workers++ {
			if got, x := gone(t, made(t, m.f, m.columns, m.filter, workers)); liesList(got, x) != want {
				t.Fatalf("%d workers: %s\nnot %s", workers, liesList(got, x), want)
			}
		}
	}
	if given < 400 || faults < 10 {
		t.Errorf("%d batches, %d faults", given, faults)
	}
}

// P24.2, W7: no row is lost by what is known: without statistics the same is given; or, with a fault among that, what stands ahead of it.
func TestNothingLost(t *testing.T) {
	c := newChance(4)
	passed, faults := 0, 0
	for range 1800 {
		table, o := c.table(t, 4), c.option()
		known, unknown := opened(t, put(t, table, o)), opened(t, putWith(t, table, o, nil))
		columns, filter := c.columns(table.Schema), maker{c, t, table.Schema}.filter()
		s, x := New(known, columns, filter, 2)
		if x.Err != api.OK {
			continue
		}
		u := made(t, unknown, columns, filter, 3)
		if len(u.Blocks()) != len(table.Batches) {
			t.Fatalf("without statistics: %v", u.Blocks())
		}
		passed += len(table.Batches) - len(s.Blocks())
		got, y := gone(t, s)
		want, z := gone(t, u)
		if z.Err == api.OK && liesList(got, y) != liesList(want, z) {
			t.Fatalf("%s\nnot %s", liesList(got, y), liesList(want, z))
		}
		if z.Err != api.OK {
			faults++
			if len(got) < len(want) || liesList(got[:len(want)], api.Fault{}) != liesList(want, api.Fault{}) {
				t.Fatalf("ahead of %v: %s\nnot %s", z, liesList(got, y), liesList(want, z))
			}
		}
	}
	if passed < 700 || faults < 10 {
		t.Errorf("%d blocks passed over, %d faults", passed, faults)
	}
}

// P24.3, W7: what is given are those rows of the file's batches at which the filter is true, of each the columns that are asked for.
func TestRows(t *testing.T) {
	c := newChance(5)
	rows := 0
	for range 1200 {
		table := c.table(t, 4)
		s := table.Schema
		f := opened(t, put(t, table, c.option()))
		columns, filter := c.columns(s), maker{c, t, s}.filter()
		made, x := New(f, columns, filter, 1+c.Intn(8))
		if x.Err != api.OK {
			continue
		}
		var got [][]api.Value
		var fault api.Fault
		for b, x := range made.All() {
			if fault = x; x.Err == api.OK {
				l, e := build.Rows(made.Schema(), b)
				if e != api.OK {
					t.Fatalf("build.Rows: %d", e)
				}
				got = append(got, l...)
			}
		}
		if fault.Err != api.OK {
			continue
		}
		rows += len(got)
		if want := wanted(t, f.All(), s, columns, filter); !sameRows(got, want) {
			t.Fatalf("%v\nnot %v", got, want)
		}
	}
	if rows < 1000 {
		t.Errorf("only %d rows", rows)
	}
}

// wanted are the rows of batches at which a filter is true. A row at which it is refused isn't: its block was passed over.
func wanted(t testing.TB, batches func(func(int, api.Batch) bool), s api.Schema, columns []string, filter api.Expr) [][]api.Value {
	t.Helper()
	var l [][]api.Value
	for _, b := range batches {
		rows, e := build.Rows(s, b)
		if e != api.OK {
			t.Fatalf("build.Rows: %d", e)
		}
		for _, row := range rows {
			if filter.Op != api.OpNone && !isTrue(t, s, row, filter) {
				continue
			}
			var out []api.Value
			for _, name := range columns {
				out = append(out, row[kind.Find(s, name)])
			}
			l = append(l, out)
		}
	}
	return l
}

// isTrue tells whether a filter is true of one row.
func isTrue(t testing.TB, s api.Schema, row []api.Value, filter api.Expr) bool {
	t.Helper()
	b, e, at := build.Batch(s, [][]api.Value{row})
	if e != api.OK {
		t.Fatalf("build.Batch: %d at %d", e, at)
	}
	f, _ := expr.Type(s, filter)
	d, x := expr.Eval(s, b, filter)
	if x.Err != api.OK {
		return false
	}
	v := valuesOf(t, f, d)[0]
	return !v.Null && v.Num == 1
}

// sameRows tells whether rows are the same.
func sameRows(a, b [][]api.Value) bool {
	return slices.EqualFunc(a, b, func(x, y []api.Value) bool { return slices.EqualFunc(x, y, sameValue) })
}

func sameValue(a, b api.Value) bool {
	return a.Null == b.Null && a.Num == b.Num && a.Text == b.Text && slices.EqualFunc(a.List, b.List, sameValue)
}

// The makers make what they should.
func TestChance(t *testing.T) {
	c := newChance(6)
	count := map[string]int{}
	for range 1500 {
		table := c.table(t, 4)
		e := maker{c, t, table.Schema}.filter()
		if e.Op == api.OpNone {
			count["none"]++
			continue
		}
		f, x := expr.Type(table.Schema, e)
		switch {
		case x.Err != api.OK:
			count["wrong"]++
		case f.Type.Kind == api.Bool:
			count["right"]++
		default:
			count["of another type"]++
		}
		for _, b := range table.Batches {
			if _, e := build.Rows(table.Schema, b); e != api.OK {
				t.Fatalf("build.Rows: %d", e)
			}
		}
	}
	for what, least := range map[string]int{"none": 100, "wrong": 20, "right": 900, "of another type": 10} {
		if count[what] < least {
			t.Errorf("%s: only %d", what, count[what])
		}
	}
	t.Log(count)
}
