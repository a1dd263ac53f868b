package match

import (
	"fmt"
	"slices"
	"strings"
	"testing"

	"colonnade/api"
	"colonnade/build"
)

// P21.3: any batches, by any keys, in all kinds of joins; what comes out is in build form.
func TestAnyJoins(t *testing.T) {
	c := newChance(31)
	told := map[api.Errno]int{}
	for range 800 {
		a := c.ask(t, 7)
		for _, a.join = range joins {
			told[a.holds(t, "any")[2]]++
			s, b, _ := a.both()
			for k, d := range b.Columns {
				if !build.IsForm(s.Fields[k], d) {
					t.Fatalf("column %d is not in build form: %+v", k, d)
				}
			}
		}
	}
	if told[api.OK] < 2000 || told[api.ErrTwice] < 100 || told[api.ErrNull] < 100 {
		t.Errorf("too few of each: %v", told)
	}
}

// P21.3: which row a key's column, and each other one, has its values from.
func TestColumns(t *testing.T) {
	l := sideOf(t, "a text, k dict(0, int8, w text)?, n int8", `"a0" "a1" "a2" "a3"`, `"x" null "y" "x"`, "1 2 3 4")
	r := sideOf(t, "c runs(v int8?)?, q runs(v text?)?, m int8", "5 5 null 7 7", `"x" null "z" "x" "z"`, "1 2 3 4 5")
	for join, x := range map[int]struct {
		schema  string
		columns []string
	}{
		api.JoinInner: {"a text, k text?, n int8, c int8?, m int8", []string{`"a0" "a0" "a3" "a3"`, `"x" "x" "x" "x"`, "1 1 4 4", "5 7 5 7", "1 4 1 4"}},
		api.JoinLeft:  {"a text, k text?, n int8, c int8?, m int8?", []string{`"a0" "a0" "a1" "a2" "a3" "a3"`, `"x" "x" null "y" "x" "x"`, "1 1 2 3 4 4", "5 7 null null 5 7", "1 4 null null 1 4"}},
		api.JoinFull:  {"a text?, k text?, n int8?, c int8?, m int8?", []string{`"a0" "a0" "a1" "a2" "a3" "a3" null null null`, `"x" "x" null "y" "x" "x" null "z" "z"`, "1 1 2 3 4 4 null null null", "5 7 null null 5 7 5 null 7", "1 4 null null 1 4 2 3 5"}},
		api.JoinSemi:  {"a text, k dict(0, int8, w text)?, n int8", []string{`"a0" "a3"`, `"x" "x"`, "1 4"}},
		api.JoinAnti:  {"a text, k dict(0, int8, w text)?, n int8", []string{`"a1" "a2"`, `null "y"`, "2 3"}},
	} {
		want := sideOf(t, x.schema, x.columns...)
		holdsJoin(t, "columns", ask{join, l, r, []int{1}, []int{1}}, want.s, want.b, api.OK)
	}
}

// P21.3: several keys, which stand in another order right than left: each column has its own partner's values.
func TestColumnsOfKeys(t *testing.T) {
	l := sideOf(t, "a int8, b int8, c int8", "1 4", "2 5", "3 6")
	r := sideOf(t, "d int8, e int8, f int8", "3 9", "1 7", "2 8")
	want := sideOf(t, "a int8, b int8, c int8", "1 4 7", "2 5 8", "3 6 9")
	holdsJoin(t, "all are keys", ask{api.JoinFull, l, r, []int{2, 0, 1}, []int{0, 1, 2}}, want.s, want.b, api.OK)
	want = sideOf(t, "a int8, b int8?, c int8, f int8?", "1 4 7", "2 5 null", "3 6 9", "2 null 8")
	holdsJoin(t, "two are keys", ask{api.JoinFull, l, r, []int{0, 2}, []int{1, 0}}, want.s, want.b, api.OK)
}

// P21.3: no rows come out, or go in.
func TestJoinOfNothing(t *testing.T) {
	l, r, empty := numbers(t, "a int8", 1, 2), numbers(t, "b int8", 3), numbers(t, "b int8")
	for join, want := range map[int][3][]int64{
		api.JoinInner: {}, api.JoinLeft: {{1, 2}, {1, 2}}, api.JoinFull: {{1, 2, 3}, {1, 2}, {3}}, api.JoinSemi: {}, api.JoinAnti: {{1, 2}, {1, 2}},
	} {
		for i, a := range []ask{onFirst(join, l, r), onFirst(join, l, empty), onFirst(join, numbers(t, "a int8"), r)} {
			w := numbers(t, "a int8", want[i]...)
			holdsJoin(t, "nothing", a, w.s, w.b, api.OK)
		}
	}
}

// P21.3: the errors of Pairs come ahead of those of Type, these ahead of those of the building.
func TestWhichFirst(t *testing.T) {
	ones, many := slices.Repeat([]int64{1}, 65), numbers(t, "b int8", slices.Repeat([]int64{1}, 65)...)
	l := numbers(t, "a int8", ones...)
	twice := sideOf(t, "b int8, a int8", strings.Repeat("1 ", 65), strings.Repeat("1 ", 65))
	onFirst(api.JoinInner, l, many).refused(t, "too many pairs", api.ErrRows, api.OK)
	onFirst(api.JoinInner, l, twice).refused(t, "too many pairs, a name twice", api.ErrRows, api.ErrTwice)
	few := twice
	few.b = batchOf(t, few.s, "1", "1")
	a := onFirst(api.JoinInner, l, few)
	holdsJoin(t, "a name twice", a, api.Schema{}, api.Batch{}, api.ErrTwice)
	if p, e := a.pairs(); e != api.OK || len(p) != 65 {
		t.Errorf("a name twice: %d pairs, %d", len(p), e)
	}
	// Bare, the text is too long for three rows.
	heavy := sideOf(t, "k int8, w dict(0, int8, w text)", "1 1 1", "")
	heavy.b = api.Batch{Rows: 3, Columns: []api.Data{heavy.b.Columns[0], formOf(t, heavy.s.Fields[1], slices.Repeat([]api.Value{{Text: strings.Repeat("x", 30000)}}, 3))}}
	one := sideOf(t, "q int8, b int8", "1", "1")
	if got := onFirst(api.JoinInner, heavy, one).holds(t, "too long a text"); got != [3]api.Errno{api.OK, api.OK, api.ErrBytes} {
		t.Errorf("too long a text: %v", got)
	}
	one.s = schemaOf(t, "q int8, w int8")
	holdsJoin(t, "too long a text, a name twice", onFirst(api.JoinInner, heavy, one), api.Schema{}, api.Batch{}, api.ErrTwice)
}

// clumsy is a batch of a dictionary of texts and one of lists, whose columns, bare, can't be built from a row on.
func clumsy(t testing.TB, textAt, listAt, rows int) side {
	t.Helper()
	s := schemaOf(t, "k int8, w dict(0, int8, w text), l dict(1, int8, w list(i int8))")
	texts, lists := make([]api.Value, rows), make([]api.Value, rows)
	for i := range rows {
		// The second one of either is too much.
		if i == 0 || i >= textAt {
			texts[i] = api.Value{Text: strings.Repeat("x", 40000)}
		}
		if i == 0 || i >= listAt {
			lists[i] = list(make([]int64, 3000)...)
		}
	}
	k := numbers(t, "k int8", slices.Repeat([]int64{1}, rows)...)
	return side{s, api.Batch{Rows: rows, Columns: []api.Data{k.b.Columns[0], formOf(t, s.Fields[1], texts), formOf(t, s.Fields[2], lists)}}}
}

// P21.3: what can't be built is told as build.Batch tells it: the first row, and of one row the first column, that can't.
func TestFirstRefusal(t *testing.T) {
	one := numbers(t, "q int8", 1)
	for _, x := range []struct {
		textAt, listAt int
		want           api.Errno
	}{
		{3, 1, api.ErrRows}, {3, 2, api.ErrRows}, {3, 3, api.ErrBytes}, {2, 3, api.ErrBytes}, {1, 3, api.ErrBytes}, {1, 1, api.ErrBytes}, {3, 9, api.ErrBytes}, {9, 3, api.ErrRows}, {9, 9, api.OK},
	} {
		l := clumsy(t, x.textAt, x.listAt, 4)
		for _, join := range joins[:3] {
			a := onFirst(join, l, one)
			if got := a.holds(t, "clumsy"); got != [3]api.Errno{api.OK, api.OK, x.want} {
				t.Errorf("text at %d, list at %d, join %d: %v", x.textAt, x.listAt, join, got)
			}
			// The same right: then the list stands further on than all of the left ones.
			a = onFirst(join, numbers(t, "z int8", 1), l)
			if got := a.holds(t, "clumsy"); got != [3]api.Errno{api.OK, api.OK, x.want} {
				t.Errorf("text at %d, list at %d, join %d: %v", x.textAt, x.listAt, join, got)
			}
			// The columns the other way round.
			m := side{api.Schema{Fields: []api.Field{l.s.Fields[0], l.s.Fields[2], l.s.Fields[1]}}, api.Batch{Rows: 4, Columns: []api.Data{l.b.Columns[0], l.b.Columns[2], l.b.Columns[1]}}}
			want := x.want
			if x.textAt == x.listAt && want != api.OK {
				want = api.ErrRows
			}
			if got := onFirst(join, m, one).holds(t, "clumsy"); got != [3]api.Errno{api.OK, api.OK, want} {
				t.Errorf("list at %d, text at %d, join %d: %v", x.listAt, x.textAt, join, got)
			}
		}
		// As they are, they can be built.
		if got := onFirst(api.JoinSemi, l, one).holds(t, "clumsy"); got != [3]api.Errno{} {
			t.Errorf("JoinSemi: %v", got)
		}
	}
}

// P21.3: left rows as they are may be refused too: a Choice's rows lie in it again and again.
func TestSemiRefusal(t *testing.T) {
	s := schemaOf(t, "k int8, c choice(l list(i int8), x int8)")
	lists := formOf(t, field(t, "l list(i int8)"), []api.Value{list(make([]int64, 2000)...)})
	d := api.Data{Length: 3, Buffers: [][]byte{{0, 0, 0}, make([]byte, 12)}, Children: []api.Data{lists, formOf(t, field(t, "x int8"), nil)}}
	l := side{s, api.Batch{Rows: 3, Columns: []api.Data{numbers(t, "k int8", 1, 2, 1).b.Columns[0], d}}}
	for _, x := range []struct {
		join  int
		right []int64
		want  api.Errno
	}{
		{api.JoinSemi, []int64{1}, api.OK}, {api.JoinSemi, []int64{1, 2}, api.ErrRows}, {api.JoinAnti, []int64{2}, api.OK}, {api.JoinAnti, nil, api.ErrRows}, {api.JoinInner, []int64{1}, api.OK}, {api.JoinInner, []int64{1, 1}, api.ErrRows},
	} {
		a := onFirst(x.join, l, numbers(t, "q int8", x.right...))
		if got := a.holds(t, "a Choice"); got != [3]api.Errno{api.OK, api.OK, x.want} {
			t.Errorf("join %d with %v: %v", x.join, x.right, got)
		}
	}
}

// P21.3: a row that is laid again and again, up to just what may be, and once more.
func TestLimits(t *testing.T) {
	many := func(n int, f, sep string) string {
		var l []string
		for i := range n {
			l = append(l, fmt.Sprintf(f, i))
		}
		return strings.Join(l, sep)
	}
	for _, x := range []struct {
		field, value string
		fits         int // so many rows
	}{
		{"x int8", "1", 4096},
		{"x dict(0, int8, w text)", `"` + strings.Repeat("x", 16) + `"`, 4096},
		{"x text", `"` + strings.Repeat("x", 17) + `"`, 65536 / 17},
		{"x runs(v list(i int8))", "[1,2]", 2048},
		{"x span(64, i null?)", "[" + strings.Repeat("null,", 63) + "null]", 64},
		// 64 values a row weigh 4096 times as much as may be, 65 not.
		{"x struct(a struct(" + many(31, "a%d int8", ", ") + "), b struct(" + many(30, "b%d int8", ", ") + "))", "{a:{" + many(31, "a%d:1", ",") + "},b:{" + many(30, "b%d:1", ",") + "}}", 4096},
		{"x struct(a struct(" + many(31, "a%d int8", ", ") + "), b struct(" + many(31, "b%d int8", ", ") + "))", "{a:{" + many(31, "a%d:1", ",") + "},b:{" + many(31, "b%d:1", ",") + "}}", 4194304 / (65 * 16)},
	} {
		l := sideOf(t, "k int8, "+x.field, "1", x.value)
		for _, n := range []int{x.fits, x.fits + 1} {
			if n > api.MaxRows {
				continue
			}
			a := onFirst(api.JoinInner, l, numbers(t, "q int8", slices.Repeat([]int64{1}, n)...))
			for range 2 {
				if got := a.holds(t, x.field); got[0] != api.OK || got[1] != api.OK || (got[2] == api.OK) != (n == x.fits) {
					t.Errorf("%d rows of %s: %v", n, x.field, got)
				}
				a.l, a.r = a.r, a.l
			}
		}
	}
}
