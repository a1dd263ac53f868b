package scan

import (
	"bytes"
	"strconv"
	"strings"
	"testing"

	"colonnade/api"
	"colonnade/file"
	"colonnade/stats"
)

// Put of the chapter's table: the statistics as the chapter lays them, byte by byte.
func TestPutBytes(t *testing.T) {
	f := opened(t, put(t, small(t), api.Option{}))
	eight := func(n byte) string { return string([]byte{n, 0, 0, 0, 0, 0, 0, 0}) }
	four := func(n byte) string { return string([]byte{n, 0, 0, 0}) }
	first := four(2) + four(0) + "\x01" + eight(1) + eight(2) + four(2) + four(0) + "\x01\x01x\x01y"
	second := four(1) + four(0) + "\x01" + eight(7) + eight(7) + four(1) + four(0) + "\x01\x01z\x01z"
	if got, want := string(f.Extra()), four(38)+first+four(38)+second; got != want {
		t.Errorf("%x, not %x", got, want)
	}
	if x := f.Check(); x.Err != api.OK || f.Len() != 2 || printed(f.Schema()) != "a int64, b text" {
		t.Errorf("Check: %v", x)
	}
}

// P24.1: Put answers what the chapter's words say, of any table and option.
func TestPutAny(t *testing.T) {
	c := newChance(1)
	seen := map[api.Errno]int{}
	for range 1500 {
		table, o := c.table(t, 4), c.option()
		if n := len(table.Batches); n > 0 && c.in(4) {
			b := &table.Batches[c.Intn(n)]
			switch c.Intn(4) {
			case 0:
				b.Rows++
			case 1:
				b.Columns = append(b.Columns[:len(b.Columns):len(b.Columns)], api.Data{})
			default:
				if len(b.Columns) > 0 {
					d := &b.Columns[c.Intn(len(b.Columns))]
					*one(c, []*int{&d.Nulls, &d.Offset}) += one(c, []int{1, -1, 5000})
				}
			}
		}
		if c.in(20) {
			o.Press = one(c, []int{-1, 3, 1 << 40})
		}
		if c.in(20) {
			table.Schema.Fields = append(table.Schema.Fields, api.Field{Name: "a", Type: api.Type{Kind: c.Intn(22)}})
		}
		want, err := modelPut(table, o)
		got, e := Put(table, o)
		if e != err || !bytes.Equal(got, want) || e != api.OK && got != nil {
			t.Fatalf("%s: %d bytes, %d, not %d, %d", printed(table.Schema), len(got), e, len(want), err)
		}
		seen[e]++
	}
	for _, e := range []api.Errno{api.OK, api.ErrType, api.ErrArg, api.ErrColumns, api.ErrLength} {
		if seen[e] == 0 {
			t.Errorf("the error %d is never told", e)
		}
	}
}

// many is a table of n batches of one row, the row of 28 columns that are null: of each batch just 256 bytes are known. If more, the last column of the last batch has bounds.
func many(t testing.TB, n int, more bool) api.Table {
	t.Helper()
	var fields []string
	for k := range 28 {
		fields = append(fields, "c"+strconv.Itoa(k)+" text?")
	}
	nulls := strings.Repeat("null ", 27)
	batches := make([]string, n)
	for i := range batches {
		batches[i] = nulls + "null"
	}
	if more {
		batches[n-1] = nulls + `""`
	}
	return tableOf(t, strings.Join(fields, ", "), batches...)
}

// Statistics of just MaxMeta bytes are kept; longer ones are none, and nothing is told of it.
func TestPutMost(t *testing.T) {
	for _, c := range []struct {
		more bool
		kept int
	}{{false, 65536}, {true, 0}} {
		table := many(t, 256, c.more)
		if n := len(modelStatistics(table)); n != 65536 && !c.more || n != 65538 && c.more {
			t.Fatalf("%d bytes", n)
		}
		f := opened(t, put(t, table, api.Option{}))
		if n := len(f.Extra()); n != c.kept || f.Len() != 256 {
			t.Errorf("%d bytes are kept, not %d", n, c.kept)
		}
		want := 256
		if !c.more {
			want = 0
		}
		s := made(t, f, []string{"c27"}, exprOf(t, `eq(c27, lit(x text = "z"))`), 8)
		if got := s.Blocks(); len(got) != want {
			t.Errorf("%d blocks are read, not %d", len(got), want)
		}
		if l, x := gone(t, s); len(l) != 0 || x.Err != api.OK {
			t.Errorf("All: %d batches, %v", len(l), x)
		}
	}
	if _, e := Put(many(t, 257, false), api.Option{}); e != api.ErrRange {
		t.Errorf("more batches than may be: %d", e)
	}
}

// wide is a table whose batches have so many rows, each of 512 bytes; of each batch 1380 bytes are known.
func wide(t testing.TB, rows ...int) api.Table {
	t.Helper()
	var fields []string
	for k := range 32 {
		fields = append(fields, "c"+strconv.Itoa(k)+" fixed(16)")
	}
	table := api.Table{Schema: schemaOf(t, strings.Join(fields, ", "))}
	for _, n := range rows {
		b := api.Batch{Rows: n}
		for range 32 {
			b.Columns = append(b.Columns, api.Data{Length: n, Buffers: [][]byte{nil, bytes.Repeat([]byte("0123456789abcdef"), n)}})
		}
		table.Batches = append(table.Batches, b)
	}
	return table
}

// ErrBytes, where the file alone would not be too long.
func TestPutTooLong(t *testing.T) {
	full := []int{4096, 4096, 4096, 4096, 4096, 4096, 4096}
	rest := (api.MaxFile - len(putWith(t, wide(t, append(full, 0)...), api.Option{}, nil)) - 1) / 512
	known := 8 * 1380
	long := wide(t, append(full, rest)...)
	if _, e := file.Put(long, api.Option{}, nil); e != api.OK {
		t.Fatalf("alone: %d", e)
	}
	if b, e := Put(long, api.Option{}); e != api.ErrBytes || b != nil {
		t.Errorf("too long: %d bytes, %d", len(b), e)
	}
	f := opened(t, put(t, wide(t, append(full, rest-known/512-1)...), api.Option{}))
	if len(f.Extra()) != known {
		t.Errorf("%d bytes known", len(f.Extra()))
	}
}

// A table without batches, and one without columns.
func TestPutLittle(t *testing.T) {
	table := tableOf(t, "a int8")
	if b, want := put(t, table, api.Option{}), putWith(t, table, api.Option{}, nil); !bytes.Equal(b, want) {
		t.Error("without batches nothing is known")
	}
	f := opened(t, put(t, table, api.Option{}))
	if l, x := (model{f, []string{"a"}, exprOf(t, "eq(a, lit(x int8 = 1))")}).holds(t, 3); len(l) > 0 || x.Err != api.OK {
		t.Errorf("%d batches, %v", len(l), x)
	}
	table = api.Table{Batches: []api.Batch{{Rows: 3}, {}}}
	f = opened(t, put(t, table, api.Option{}))
	if !bytes.Equal(f.Extra(), make([]byte, 8)) {
		t.Errorf("without columns: %v", f.Extra())
	}
	for _, c := range []struct {
		filter string
		blocks int
		all    [][]string
	}{
		{"", 2, [][]string{{"", "", ""}, nil}},
		{"lit(x bool = true)", 2, [][]string{{"", "", ""}}},
		{"lit(x bool = false)", 0, nil},
	} {
		s := made(t, f, nil, exprOf(t, c.filter), 2)
		if got := texts(t, s); len(s.Blocks()) != c.blocks || !isText(got, c.all...) {
			t.Errorf("%s: %v, %v", c.filter, s.Blocks(), got)
		}
		model{f, nil, exprOf(t, c.filter)}.holds(t, 1)
	}
}

// What is known is believed: a block that is passed over isn't read, whatever lies there.
func TestBelieved(t *testing.T) {
	table := small(t)
	lie := func(l ...[]api.Stat) []byte {
		var all []byte
		for _, x := range l {
			b, e := stats.Put(table.Schema, x)
			if e != api.OK {
				t.Fatalf("stats.Put: %d", e)
			}
			all = append(append(all, byte(len(b)), 0, 0, 0), b...)
		}
		return all
	}
	num := func(n int64) api.Value { return api.Value{Num: n} }
	low := func(rows int) []api.Stat {
		return []api.Stat{{Rows: rows, Has: true, Least: num(-9), Most: num(-8)}, {Rows: rows}}
	}
	high := func(rows int) []api.Stat {
		return []api.Stat{{Rows: rows, Has: true, Least: num(8), Most: num(9)}, {Rows: rows}}
	}
	right := lie(low(2), high(1))
	for i, c := range []struct {
		extra  []byte
		blocks []int
	}{
		{right, []int{1}},
		{lie(high(2), low(1)), []int{0}},
		{lie(low(2), low(1)), nil},
		{lie(high(2), high(1)), []int{0, 1}},
		// From here on they are of another form, and tell nothing.
		{lie(low(1), low(2)), []int{0, 1}},
		{lie(low(2), []api.Stat{{Rows: 1, Has: true, Least: num(-9), Most: num(-8)}, {Rows: 2}}), []int{0, 1}},
		{lie(low(2)), []int{0, 1}},
		{lie(low(2), low(1), []api.Stat{{}, {}}), []int{0, 1}},
		{lie(low(2), low(1), low(1)), []int{0, 1}},
		{right[:len(right)-1], []int{0, 1}},
		{append(right[:len(right):len(right)], 0), []int{0, 1}},
		{append(right[:len(right):len(right)], 0, 0, 0, 0), []int{0, 1}},
		{append([]byte{0, 0, 0, 0}, right...), []int{0, 1}},
		{nil, []int{0, 1}},
		{[]byte{0, 0, 0}, []int{0, 1}},
		{[]byte{0, 0, 0, 0, 0, 0, 0, 0}, []int{0, 1}},
		{bytes.Repeat([]byte{255}, 200), []int{0, 1}},
	} {
		f := opened(t, putWith(t, table, api.Option{}, c.extra))
		m := model{f, []string{"b"}, exprOf(t, above5)}
		s := made(t, f, m.columns, m.filter, 2)
		var want [][]string
		if len(c.blocks) > 0 && c.blocks[len(c.blocks)-1] == 1 {
			want = [][]string{{`"z"`}}
		}
		if got := texts(t, s); len(s.Blocks()) != len(c.blocks) || !isText(got, want...) {
			t.Errorf("%d: %v, not %v: %v", i, s.Blocks(), c.blocks, got)
		}
		m.holds(t, 3)
		if got := made(t, f, nil, api.Expr{}, 1).Blocks(); len(got) != 2 {
			t.Errorf("%d: without a filter %v", i, got)
		}
	}
}

// May is asked of the filter as it came: an operation in it that may be refused lets no block be passed over, though it hangs on no row.
func TestBlocksOfTheFilterAsItCame(t *testing.T) {
	f := opened(t, put(t, small(t), api.Option{}))
	for _, c := range []struct {
		filter string
		blocks int
	}{
		{"gt(a, lit(n int64 = 99))", 0},
		{"gt(a, add(lit(n int64 = 98), lit(n int64 = 1)))", 2},
		{"and(lit(x bool = false), eq(lit(n int64 = 1), div(lit(n int64 = 1), lit(n int64 = 0))))", 2},
		{"gt(lit(n int64 = 1), lit(n int64 = 2))", 0},
		{"isnull(a)", 0},
	} {
		m := model{f, []string{"a"}, exprOf(t, c.filter)}
		if got := made(t, f, m.columns, m.filter, 1).Blocks(); len(got) != c.blocks {
			t.Errorf("%s: %v", c.filter, got)
		}
		if l, x := m.holds(t, 2); len(l) != 0 || x.Err != api.OK {
			t.Errorf("%s: %d batches, %v", c.filter, len(l), x)
		}
	}
}
