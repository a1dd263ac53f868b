package scan

import (
	"slices"
	"testing"

	"colonnade/api"
	"colonnade/file"
	"colonnade/value"
)

// small is the chapter's table.
func small(t testing.TB) api.Table {
	t.Helper()
	return tableOf(t, "a int64, b text", `1 "x"; 2 "y"`, `7 "z"`)
}

const above5, below0 = "gt(a, lit(n int64 = 5))", "lt(a, lit(n int64 = 0))"

// texts tells what All of a scan gives, a text a row: its values, one behind the other.
func texts(t testing.TB, s *Scan) [][]string {
	t.Helper()
	l, x := gone(t, s)
	if x.Err != api.OK {
		t.Fatalf("All: %v", x)
	}
	var out [][]string
	for _, b := range l {
		rows := make([]string, b.Rows)
		for k, f := range s.Schema().Fields {
			for i, v := range valuesOf(t, f, b.Columns[k]) {
				text, e := value.Print(f, v)
				if e != api.OK {
					t.Fatalf("value.Print: %d", e)
				}
				rows[i] += text
			}
		}
		out = append(out, rows)
	}
	return out
}

// isText tells whether batches have such texts.
func isText(got [][]string, want ...[]string) bool {
	return slices.EqualFunc(got, want, slices.Equal[[]string])
}

// The chapter's first, second and fourth example.
func TestExamples(t *testing.T) {
	known := opened(t, put(t, small(t), api.Option{}))
	unknown := opened(t, putWith(t, small(t), api.Option{}, nil))
	for i, c := range []struct {
		f       *file.File
		columns []string
		filter  string
		schema  string
		blocks  []int
		all     [][]string
	}{
		{known, []string{"b"}, above5, "b text", []int{1}, [][]string{{`"z"`}}},
		{known, []string{"b"}, "", "b text", []int{0, 1}, [][]string{{`"x"`, `"y"`}, {`"z"`}}},
		{known, nil, below0, "", nil, nil},
		{known, nil, "", "", []int{0, 1}, [][]string{{"", ""}, {""}}},
		{unknown, []string{"b"}, above5, "b text", []int{0, 1}, [][]string{{`"z"`}}},
	} {
		for workers := 1; workers <= 8; workers++ {
			s := made(t, c.f, c.columns, exprOf(t, c.filter), workers)
			if got := texts(t, s); printed(s.Schema()) != c.schema || !slices.Equal(s.Blocks(), c.blocks) || !isText(got, c.all...) {
				t.Errorf("%d: %s, %v, %v", i, printed(s.Schema()), s.Blocks(), got)
			}
		}
	}
	table, x := made(t, known, nil, exprOf(t, below0), 1).Table()
	if x.Err != api.OK || len(table.Schema.Fields) != 0 || len(table.Batches) != 0 {
		t.Errorf("Table: %v, %v", table, x)
	}
}

// The third one.
func TestExampleFaults(t *testing.T) {
	f := opened(t, put(t, small(t), api.Option{}))
	for _, c := range []struct {
		columns []string
		filter  string
		workers int
		want    api.Fault
	}{
		{[]string{"c"}, "", 1, api.Fault{Err: api.ErrColumn}},
		{[]string{"b", "b"}, "", 1, api.Fault{Err: api.ErrTwice, At: 1}},
		{[]string{"a"}, "add(a, lit(n int64 = 1))", 1, api.Fault{Err: api.ErrType}},
		{[]string{"a"}, "", 0, api.Fault{Err: api.ErrArg}},
	} {
		if s, x := New(f, c.columns, exprOf(t, c.filter), c.workers); s != nil || told(x) != told(c.want) {
			t.Errorf("New(%v, %s, %d): %s", c.columns, c.filter, c.workers, told(x))
		}
	}
}

// The ninth one of the whole: a scan by one worker or eight reads the second block alone.
func TestExampleOfTheWhole(t *testing.T) {
	f := opened(t, put(t, tableOf(t, "a int64", "1; 2", "7"), api.Option{}))
	for _, workers := range []int{1, 8} {
		s := made(t, f, []string{"a"}, exprOf(t, above5), workers)
		if got := texts(t, s); !slices.Equal(s.Blocks(), []int{1}) || !isText(got, []string{"7"}) {
			t.Errorf("%v, %v", s.Blocks(), got)
		}
	}
}
