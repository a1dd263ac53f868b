package scan

import (
	"bytes"
	"encoding/binary"
	"slices"
	"strings"
	"testing"

	"colonnade/api"
	"colonnade/build"
)

// faults holds what All and Table tell of a scan, by any number of workers, against the chapter's words: so many batches, and a fault.
func faults(t testing.TB, what string, m model, batches int, want api.Fault) {
	t.Helper()
	for _, workers := range []int{1, 2, 8} {
		l, x := m.holds(t, workers)
		if len(l) != batches || told(x) != told(want) {
			t.Errorf("%s: %d batches, %s, not %d, %s", what, len(l), told(x), batches, told(want))
		}
	}
}

// A block that can't be read: its error, its number, no way; the batches ahead of it are given, none behind it.
func TestReadRefused(t *testing.T) {
	table := counted(t, 30)
	b := put(t, table, api.Option{})
	f := opened(t, b)
	x, _ := f.Block(17)
	b[x.At+30] ^= 1
	y, _ := f.Block(20)
	b[y.At] ^= 1
	faults(t, "all", model{f, []string{"a"}, api.Expr{}}, 17, api.Fault{Err: api.ErrBlock, At: 17})
	faults(t, "no columns", model{f, nil, api.Expr{}}, 17, api.Fault{Err: api.ErrBlock, At: 17})
	faults(t, "ahead of it", model{f, []string{"a"}, exprOf(t, "lt(a, lit(n int64 = 17))")}, 17, api.Fault{})
	faults(t, "behind it", model{f, []string{"b"}, exprOf(t, "ge(a, lit(n int64 = 18))")}, 2, api.Fault{Err: api.ErrBlock, At: 20})
	faults(t, "passed over", model{f, []string{"b"}, exprOf(t, "gt(a, lit(n int64 = 20))")}, 9, api.Fault{})
	faults(t, "few rows", model{f, []string{"b"}, exprOf(t, "or(eq(a, lit(n int64 = 3)), gt(a, lit(n int64 = 16)))")}, 1, api.Fault{Err: api.ErrBlock, At: 17})
}

// Columns that are not asked for are not read: what is wrong with them isn't told.
func TestColumnsAlone(t *testing.T) {
	b := putWith(t, tableOf(t, "a int8, b text, c bool", `1 "x" true; 2 "y" false`), api.Option{}, nil)
	f := opened(t, b)
	x, _ := f.Block(0)
	m := messageAt(b, x)
	at := bytes.Index(m.Body, []byte("xy"))
	m.Body[at] = 0xff
	relay(t, b, x, m)
	utf := api.Fault{Err: api.ErrUtf}
	for _, c := range []struct {
		columns string
		filter  string
		n       int
		want    api.Fault
	}{
		{"a c", "", 1, api.Fault{}},
		{"b", "", 0, utf},
		{"a", "c", 1, api.Fault{}},
		{"a", "eq(a, lit(x int8 = 1))", 1, api.Fault{}},
		{"a", "eq(b, lit(x text = \"y\"))", 0, utf},
		{"", "isnull(b)", 0, utf},
		{"", "if(c, lit(x bool = true), isnull(b))", 0, utf},
		{"c a b", "lit(x bool = false)", 0, utf},
		{"c a", "lit(x bool = false)", 0, api.Fault{}},
	} {
		faults(t, c.columns+", "+c.filter, model{f, strings.Fields(c.columns), exprOf(t, c.filter)}, c.n, c.want)
	}
}

// A filter that is refused at a row of a block: its error, the block's number, no way; a block that is passed over refuses nothing.
func TestFilterRefused(t *testing.T) {
	table := tableOf(t, "a int8, b bool", "1 true; 2 false", "5 false", "7 true; 0 true; 3 true", "0 false")
	for _, c := range []struct {
		filter string
		n      int
		want   api.Fault
	}{
		{"gt(div(lit(x int8 = 6), a), lit(x int8 = 1))", 1, api.Fault{Err: api.ErrZero, At: 2}},
		{"and(b, gt(div(lit(x int8 = 6), a), lit(x int8 = 9)))", 0, api.Fault{Err: api.ErrZero, At: 2}},
		{"or(b, gt(div(lit(x int8 = 6), a), lit(x int8 = 0)))", 3, api.Fault{Err: api.ErrZero, At: 3}},
		{"gt(add(a, lit(x int8 = 121)), lit(x int8 = 0))", 2, api.Fault{Err: api.ErrOverflow, At: 2}},
		{"eq(cast(a, x bool), b)", 0, api.Fault{Err: api.ErrLost}},
		{"and(lit(x bool = false), eq(div(a, a), a))", 0, api.Fault{}},
		{"eq(neg(neg(lit(x int8 = -128))), a)", 0, api.Fault{Err: api.ErrOverflow}},
	} {
		for _, b := range [][]byte{put(t, table, api.Option{}), putWith(t, table, api.Option{}, nil)} {
			m := model{opened(t, b), []string{"b"}, exprOf(t, c.filter)}
			faults(t, c.filter, m, c.n, c.want)
		}
	}
}

// heavy is a file whose columns a and b weigh nearly MaxWeight each, and c little.
func heavy(t testing.TB) []byte {
	t.Helper()
	s := schemaOf(t, "a dict(0, uint8, w text), b dict(1, uint8, w text), c int8")
	long := api.Value{Text: strings.Repeat("x", 1000)}
	rows := slices.Repeat([][]api.Value{{long, long, {}}}, 2200)
	b := api.Batch{Rows: len(rows)}
	for k, f := range s.Fields {
		var l []api.Value
		for _, row := range rows {
			l = append(l, row[k])
		}
		b.Columns = append(b.Columns, formOf(t, f, l))
	}
	if _, e := build.Rows(s, b); e != api.ErrRows {
		t.Fatalf("build.Rows: %d", e)
	}
	return put(t, api.Table{Schema: s, Batches: []api.Batch{b}}, api.Option{})
}

// The filter's errors of a batch are of all columns that are read together; without a filter there are none.
func TestTogetherTooHeavy(t *testing.T) {
	f := opened(t, heavy(t))
	for _, c := range []struct {
		columns, filter string
		n               int
		want            api.Fault
	}{
		{"a b c", "", 1, api.Fault{}},
		{"a c", "eq(c, lit(x int8 = 0))", 1, api.Fault{}},
		{"b", "eq(a, lit(x text = \"y\"))", 0, api.Fault{}}, // passed over
		{"a b", "eq(c, lit(x int8 = 0))", 0, api.Fault{Err: api.ErrRows}},
		{"a b", "lit(x bool = true)", 0, api.Fault{Err: api.ErrRows}},
		{"", "lit(x bool = true)", 1, api.Fault{}},
		{"c", "eq(a, b)", 0, api.Fault{Err: api.ErrRows}},
		{"c a", "isnull(b)", 0, api.Fault{}},
	} {
		s := made(t, f, strings.Fields(c.columns), exprOf(t, c.filter), 2)
		l, x := gone(t, s)
		if len(l) != c.n || told(x) != told(c.want) {
			t.Errorf("%s, %s: %d batches, %s", c.columns, c.filter, len(l), told(x))
		}
	}
}

// namedAgain is the file of a table whose first batch has been written into: all rows of the Choice columns of the batch name row 0 of child 0. So much the file holds, and the build form may not.
func namedAgain(t testing.TB, table api.Table) []byte {
	t.Helper()
	b := put(t, table, api.Option{})
	x, _ := opened(t, b).Block(0)
	m := messageAt(b, x)
	rows := table.Batches[0].Rows
	for _, d := range table.Batches[0].Columns {
		if len(d.Buffers[0]) == 0 {
			continue
		}
		codes, offsets := bytes.Index(m.Body, d.Buffers[0]), bytes.Index(m.Body, d.Buffers[1])
		if codes < 0 || offsets < 0 {
			t.Fatal("the columns aren't there")
		}
		clear(m.Body[codes : codes+rows])
		clear(m.Body[offsets : offsets+4*rows])
	}
	relay(t, b, x, m)
	return b
}

// Columns that can't be built: the error of the first one, in the order in which they are asked for; of the rows alone that come out.
func TestBuildRefused(t *testing.T) {
	s := schemaOf(t, "n int16, l choice(p text, q bool), s choice(p span(64, i int8), q int8)")
	var rows [][]api.Value
	for i := range 70 {
		long, other := api.Value{Num: 1, List: []api.Value{{Num: int64(i % 2)}}}, api.Value{Num: 1, List: []api.Value{{Num: int64(i)}}}
		if i == 3 { // the rows that all name later on
			long = api.Value{List: []api.Value{{Text: strings.Repeat("x", 1000)}}}
			other = api.Value{List: []api.Value{{List: make([]api.Value, 64)}}}
		}
		rows = append(rows, []api.Value{{Num: int64(i)}, long, other})
	}
	first, e, at := build.Batch(s, rows)
	if e != api.OK {
		t.Fatalf("build.Batch: %d at %d", e, at)
	}
	second, _, _ := build.Batch(s, rows[:2])
	b := namedAgain(t, api.Table{Schema: s, Batches: []api.Batch{first, second}})
	f := opened(t, b)
	if x := f.Check(); x.Err != api.OK {
		t.Fatalf("Check: %v", x)
	}
	tooLong, tooMany := api.Fault{Err: api.ErrBytes}, api.Fault{Err: api.ErrRows}
	for _, c := range []struct {
		columns, filter string
		n               int
		want            api.Fault
	}{
		{"n", "", 2, api.Fault{}},
		{"l", "", 0, tooLong},
		{"s n", "", 0, tooMany},
		{"n l s", "", 0, tooLong},
		{"s n l", "", 0, tooMany},
		{"l s", "lt(n, lit(x int16 = 64))", 2, api.Fault{}},
		{"l s", "lt(n, lit(x int16 = 65))", 0, tooMany},
		{"s l", "lt(n, lit(x int16 = 66))", 0, tooMany},
		{"l s", "lt(n, lit(x int16 = 66))", 0, tooLong},
		{"l", "lt(n, lit(x int16 = 65))", 2, api.Fault{}},
		{"l", "gt(n, lit(x int16 = 4))", 1, api.Fault{}},
		{"l", "gt(n, lit(x int16 = 3))", 0, tooLong},
	} {
		faults(t, c.columns+", "+c.filter, model{f, strings.Fields(c.columns), exprOf(t, c.filter)}, c.n, c.want)
	}
}

// Dictionaries that are told ahead of a block are read with it, those of columns that are not asked for too.
func TestDictionaries(t *testing.T) {
	table := tableOf(t, "a int8, d dict(4, uint8, w text)", `1 "x"`, `2 "y"; 2 "x"`, `3 "z"`)
	for _, o := range []api.Option{{}, {Delta: true}} {
		b := put(t, table, o)
		f := opened(t, b)
		m := model{f, []string{"d"}, exprOf(t, "ge(a, lit(x int8 = 2))")}
		if got := texts(t, made(t, f, m.columns, m.filter, 2)); !isText(got, []string{`"y"`, `"x"`}, []string{`"z"`}) {
			t.Errorf("%v", got)
		}
		// The dictionary's message that stands ahead of the third block.
		x, _ := f.Block(1)
		from := x.At + 24 + (x.Meta+7)/8*8 + (x.Body+7)/8*8
		if binary.LittleEndian.Uint32(b[from:]) != binary.LittleEndian.Uint32(b[x.At:]) {
			t.Fatal("no message is there")
		}
		b[from+25] ^= 1
		faults(t, "a dictionary", m, 1, api.Fault{Err: api.ErrBlock, At: 2})
		faults(t, "a dictionary of another column", model{f, []string{"a"}, m.filter}, 1, api.Fault{Err: api.ErrBlock, At: 2})
		faults(t, "no columns", model{f, nil, api.Expr{}}, 2, api.Fault{Err: api.ErrBlock, At: 2})
	}
}
