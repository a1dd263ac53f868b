package match

import (
	"slices"
	"testing"

	"colonnade/api"
)

// without are the pairs for which something isn't so.
func without(pairs [][2]int, is func(p [2]int) bool) [][2]int {
	return slices.DeleteFunc(slices.Clone(pairs), is)
}

// P21.4: how the kinds of joins hang together, by no model.
func TestWhatFollows(t *testing.T) {
	c := newChance(61)
	met := 0
	for range 2000 {
		a := c.ask(t, 9)
		var told [6][][2]int
		for _, a.join = range joins {
			p, e := a.pairs()
			if e != api.OK {
				t.Fatalf("join %d: %d", a.join, e)
			}
			told[a.join] = p
		}
		inner, left, full := told[api.JoinInner], told[api.JoinLeft], told[api.JoinFull]
		met += len(inner)
		if !slices.Equal(inner, without(left, func(p [2]int) bool { return p[1] == -1 })) || !slices.Equal(left, without(full, func(p [2]int) bool { return p[0] == -1 })) {
			t.Fatalf("%v, %v, %v", inner, left, full)
		}
		for i := range a.l.b.Rows {
			isOf := func(p [2]int) bool { return p[0] == i }
			semi, anti := slices.Contains(told[api.JoinSemi], [2]int{i, -1}), slices.Contains(told[api.JoinAnti], [2]int{i, -1})
			if semi == anti || semi != slices.ContainsFunc(inner, isOf) || !slices.ContainsFunc(left, isOf) {
				t.Fatalf("left row %d: %v", i, told)
			}
		}
		for j := range a.r.b.Rows {
			if !slices.ContainsFunc(full, func(p [2]int) bool { return p[1] == j }) {
				t.Fatalf("right row %d: %v", j, full)
			}
		}
		if len(told[api.JoinSemi])+len(told[api.JoinAnti]) != a.l.b.Rows {
			t.Fatalf("%d left rows: %v", a.l.b.Rows, told)
		}
		turned, e := Pairs(api.JoinInner, a.r.s, a.r.b, a.k2, a.l.s, a.l.b, a.k1)
		for i, p := range turned {
			turned[i] = [2]int{p[1], p[0]}
		}
		slices.SortFunc(turned, func(p, q [2]int) int { return slices.Compare(p[:], q[:]) })
		if e != api.OK || !slices.Equal(turned, inner) {
			t.Fatalf("turned: %v, %d, not %v", turned, e, inner)
		}
	}
	if met < 2000 {
		t.Errorf("only %d pairs", met)
	}
}

// P21.5: it hangs on what the columns denote alone, not on how they lie.
func TestLies(t *testing.T) {
	c := newChance(62)
	for range 1000 {
		a := c.ask(t, 8)
		b := a
		b.l.b, b.r.b = c.batch(t, a.l.s, rowsIn(t, a.l.s, a.l.b)), c.batch(t, a.r.s, rowsIn(t, a.r.s, a.r.b))
		pairs, e := a.pairs()
		holdsPairs(t, "again", b, pairs, e)
		s, out, e := a.both()
		holdsJoin(t, "again", b, s, out, e)
	}
}

// P21.5: the keys of a row meet as they do, whether they lie as they are, as dictionaries or as runs.
func TestDress(t *testing.T) {
	c := newChance(63)
	for range 1000 {
		a := c.ask(t, 8)
		b := a
		b.r.s, b.k2 = c.partner(a.l.s, a.k1)
		fits := true
		for i, k := range a.k2 {
			fits = fits && a.r.s.Fields[k].Nullable == b.r.s.Fields[b.k2[i]].Nullable
		}
		if !fits {
			continue
		}
		rows := c.rows(b.r.s, a.r.b.Rows)
		for j, row := range rowsIn(t, a.r.s, a.r.b) {
			for i, k := range a.k2 {
				rows[j][b.k2[i]] = row[k]
			}
		}
		b.r.b = c.batch(t, b.r.s, rows)
		pairs, e := a.pairs()
		holdsPairs(t, "dressed otherwise", b, pairs, e)
	}
}

// P21.5: other columns only add to the rows; and each is laid as if it were alone.
func TestOtherColumns(t *testing.T) {
	c := newChance(64)
	laid := 0
	for range 1500 {
		a := c.ask(t, 8)
		keys := a
		keys.l, keys.k1 = only(a.l, a.k1)
		keys.r, keys.k2 = only(a.r, a.k2)
		pairs, e := a.pairs()
		holdsPairs(t, "the keys alone", keys, pairs, e)
		s, b, e := a.both()
		if e != api.OK {
			continue
		}
		few, out, e := keys.both()
		if e != api.OK {
			t.Fatalf("the keys alone: %d", e)
		}
		for i, k := range a.k1 {
			if !sameFields([]api.Field{few.Fields[i]}, []api.Field{s.Fields[k]}) || lies(out.Columns[i]) != lies(b.Columns[k]) {
				t.Fatalf("key %d: %+v, not %+v", i, out.Columns[i], b.Columns[k])
			}
			laid++
		}
	}
	if laid < 500 {
		t.Errorf("only %d columns", laid)
	}
}

// only is some columns of a batch, and their numbers in it.
func only(x side, columns []int) (side, []int) {
	var out side
	var l []int
	out.b.Rows = x.b.Rows
	for i, k := range columns {
		out.s.Fields, out.b.Columns = append(out.s.Fields, x.s.Fields[k]), append(out.b.Columns, x.b.Columns[k])
		l = append(l, i)
	}
	return out, l
}
