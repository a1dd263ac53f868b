package scan

import (
	"encoding/binary"
	"fmt"
	"slices"
	"strings"
	"testing"

	"colonnade/api"
	"colonnade/array"
	"colonnade/build"
	"colonnade/expr"
	"colonnade/file"
	"colonnade/kind"
	"colonnade/stats"
	"colonnade/value"
)

var null = api.Value{Null: true}

// fieldOf reads a field, as `a list(i int8)?`.
func fieldOf(t testing.TB, text string) api.Field {
	t.Helper()
	f, e, at := kind.ParseField(text)
	if e != api.OK {
		t.Fatalf("%s: %d at %d", text, e, at)
	}
	return f
}

// schemaOf reads a schema.
func schemaOf(t testing.TB, text string) api.Schema {
	t.Helper()
	s, e, at := kind.Parse(text)
	if e != api.OK {
		t.Fatalf("%s: %d at %d", text, e, at)
	}
	return s
}

// exprOf reads an expression; of no text it is none.
func exprOf(t testing.TB, text string) api.Expr {
	t.Helper()
	if text == "" {
		return api.Expr{}
	}
	e, x, at := expr.Parse(text)
	if x != api.OK {
		t.Fatalf("%s: %d at %d", text, x, at)
	}
	return e
}

// formOf is the build form of values.
func formOf(t testing.TB, f api.Field, l []api.Value) api.Data {
	t.Helper()
	d, e, at := build.Of(f, l)
	if e != api.OK {
		t.Fatalf("build.Of: %d at %d", e, at)
	}
	return d
}

// tableOf makes a table of batches whose rows stand as `1 "x"; 2 "y"`.
func tableOf(t testing.TB, schema string, batches ...string) api.Table {
	t.Helper()
	out := api.Table{Schema: schemaOf(t, schema)}
	for _, text := range batches {
		var rows [][]api.Value
		for _, line := range strings.Split(text, ";") {
			if text == "" {
				break
			}
			var row []api.Value
			for k, word := range strings.Fields(line) {
				v, e, at := value.Parse(out.Schema.Fields[k], word)
				if e != api.OK {
					t.Fatalf("%s: %d at %d", word, e, at)
				}
				row = append(row, v)
			}
			rows = append(rows, row)
		}
		b, e, at := build.Batch(out.Schema, rows)
		if e != api.OK {
			t.Fatalf("build.Batch: %d at %d", e, at)
		}
		out.Batches = append(out.Batches, b)
	}
	return out
}

// put is the file that Put makes of a table.
func put(t testing.TB, table api.Table, o api.Option) []byte {
	t.Helper()
	b, e := Put(table, o)
	if e != api.OK {
		t.Fatalf("Put: %d", e)
	}
	return b
}

// putWith is the file with other extra bytes.
func putWith(t testing.TB, table api.Table, o api.Option, extra []byte) []byte {
	t.Helper()
	b, e := file.Put(table, o, extra)
	if e != api.OK {
		t.Fatalf("file.Put: %d", e)
	}
	return b
}

// opened is a file's bytes, looked into.
func opened(t testing.TB, b []byte) *file.File {
	t.Helper()
	f, x := file.Open(b)
	if x.Err != api.OK {
		t.Fatalf("Open: %v", x)
	}
	return f
}

// made is a scan.
func made(t testing.TB, f *file.File, columns []string, filter api.Expr, workers int) *Scan {
	t.Helper()
	s, x := New(f, columns, filter, workers)
	if x.Err != api.OK || s == nil {
		t.Fatalf("New: %v", x)
	}
	return s
}

// op makes a node of arguments.
func op(n int, args ...api.Expr) api.Expr { return api.Expr{Op: n, Args: args} }

// named makes a column.
func named(name string) api.Expr { return api.Expr{Op: api.OpColumn, Name: name} }

// lit makes a literal.
func lit(f api.Field, v api.Value) api.Expr { return api.Expr{Op: api.OpLiteral, Field: f, Value: v} }

// lies tells how an array lies: two that lie alike are told alike, lists without elements too.
func lies(d api.Data) string {
	s := fmt.Sprintf("%d+%d %d %x (", d.Offset, d.Length, d.Nulls, d.Buffers)
	for _, x := range slices.Concat(d.Children, d.Dict) {
		s += lies(x)
	}
	return fmt.Sprintf("%s %d %d)", s, len(d.Children), len(d.Dict))
}

// liesBatch tells likewise how a batch does.
func liesBatch(b api.Batch) string {
	s := fmt.Sprintf("%d rows:", b.Rows)
	for _, d := range b.Columns {
		s += lies(d)
	}
	return s
}

// printed is a schema's text, notes too: that of one is no other's.
func printed(s api.Schema) string {
	text, e := kind.Print(s)
	if e != api.OK {
		return "no schema"
	}
	return text
}

// told tells a fault: two alike ones are told alike.
func told(x api.Fault) string { return fmt.Sprintf("%d %v at %d", int(x.Err), x.Path, x.At) }

// liesList tells how batches lie that are given one by one, each behind the other, and the fault behind them.
func liesList(l []api.Batch, x api.Fault) string {
	var s strings.Builder
	for _, b := range l {
		s.WriteString(liesBatch(b) + "\n")
	}
	return s.String() + told(x)
}

// gone tells what All of a scan gives; it holds that a fault is the last one, and that no batch stands beside it.
func gone(t testing.TB, s *Scan) ([]api.Batch, api.Fault) {
	t.Helper()
	var l []api.Batch
	var fault api.Fault
	for b, x := range s.All() {
		if fault.Err != api.OK {
			t.Fatalf("behind the fault %v something is given", fault)
		}
		if x.Err == api.OK {
			if told(x) != told(api.Fault{}) {
				t.Fatalf("beside a batch: %v", x)
			}
			l = append(l, b)
			continue
		}
		if b.Rows != 0 || b.Columns != nil {
			t.Fatalf("beside the fault %v a batch: %+v", x, b)
		}
		fault = x
	}
	return l, fault
}

// valuesOf are the values of an array.
func valuesOf(t testing.TB, f api.Field, d api.Data) []api.Value {
	t.Helper()
	a, x := array.Open(f, d)
	if x.Err != api.OK {
		t.Fatalf("array.Open: %v", x)
	}
	return a.Values()
}

// modelStatistics are a table's by the chapter's words.
func modelStatistics(table api.Table) []byte {
	var all []byte
	for _, b := range table.Batches {
		var l []api.Stat
		for k, f := range table.Schema.Fields {
			x, _ := stats.Of(f, b.Columns[k])
			l = append(l, x)
		}
		laid, _ := stats.Put(table.Schema, l)
		all = append(binary.LittleEndian.AppendUint32(all, uint32(len(laid))), laid...)
	}
	return all
}

// modelPut is Put by the chapter's words.
func modelPut(table api.Table, o api.Option) ([]byte, api.Errno) {
	if _, e := file.Put(table, o, nil); e != api.OK {
		return nil, e
	}
	extra := modelStatistics(table)
	if len(extra) > 65536 {
		extra = nil
	}
	return file.Put(table, o, extra)
}

// modelKnown reads a file's statistics by the chapter's words: nil, if it has none. It goes from behind: what is left at last must be nothing.
func modelKnown(f *file.File) [][]api.Stat {
	b := f.Extra()
	var all [][]api.Stat
	for i := range f.Len() {
		if len(b) < 4 || uint64(binary.LittleEndian.Uint32(b)) > uint64(len(b)-4) {
			return nil
		}
		n := 4 + int(binary.LittleEndian.Uint32(b))
		l, e := stats.Get(f.Schema(), b[4:n])
		if e != api.OK {
			return nil
		}
		for _, x := range l {
			if x.Rows != f.Rows(i) {
				return nil
			}
		}
		all, b = append(all, l), b[n:]
	}
	if len(b) > 0 {
		return nil
	}
	return all
}

// model is a scan by the chapter's words, one block behind the other.
type model struct {
	f       *file.File
	columns []string
	filter  api.Expr
}

// wrong is New's fault.
func (m model) wrong(workers int) api.Fault {
	s := m.f.Schema()
	seen := map[string]int{}
	for k, name := range m.columns {
		if !slices.ContainsFunc(s.Fields, func(f api.Field) bool { return f.Name == name }) {
			return api.Fault{Err: api.ErrColumn, At: k}
		}
		if seen[name]++; seen[name] > 1 {
			return api.Fault{Err: api.ErrTwice, At: k}
		}
	}
	if m.filter.Op != 0 {
		f, x := expr.Type(s, m.filter)
		if x.Err != api.OK {
			return x
		}
		if f.Type.Kind != api.Bool {
			return api.Fault{Err: api.ErrType}
		}
	}
	if workers <= 0 || workers > 8 {
		return api.Fault{Err: api.ErrArg}
	}
	return api.Fault{}
}

// blocks is Blocks.
func (m model) blocks() []int {
	known := modelKnown(m.f)
	var l []int
	for i := range m.f.Len() {
		if m.filter.Op != 0 && known != nil {
			if may, e := stats.May(m.f.Schema(), m.filter, known[i]); !may && e == api.OK {
				continue
			}
		}
		l = append(l, i)
	}
	return l
}

// schema is Schema.
func (m model) schema() api.Schema {
	s := m.f.Schema()
	out := api.Schema{Notes: s.Notes}
	for _, name := range m.columns {
		out.Fields = append(out.Fields, s.Fields[kind.Find(s, name)])
	}
	return out
}

// all is what All gives.
func (m model) all(t testing.TB) ([]api.Batch, api.Fault) {
	t.Helper()
	var l []api.Batch
	for _, i := range m.blocks() {
		b, e := m.block(t, i)
		if e != api.OK {
			return l, api.Fault{Err: e, At: i}
		}
		if m.filter.Op == 0 || b.Rows > 0 {
			l = append(l, b)
		}
	}
	return l, api.Fault{}
}

// block is what becomes of one.
func (m model) block(t testing.TB, i int) (api.Batch, api.Errno) {
	t.Helper()
	var reads []int
	var within api.Schema
	for k, f := range m.f.Schema().Fields {
		if slices.Contains(m.columns, f.Name) || slices.Contains(expr.Columns(m.filter), f.Name) {
			reads, within.Fields = append(reads, k), append(within.Fields, f)
		}
	}
	b, x := m.f.Some(i, reads)
	if x.Err != api.OK {
		return api.Batch{}, x.Err
	}
	var rows []int
	for r := range b.Rows {
		rows = append(rows, r)
	}
	if m.filter.Op != 0 {
		d, x := expr.Eval(within, b, m.filter)
		if x.Err != api.OK {
			return api.Batch{}, x.Err
		}
		f, _ := expr.Type(within, m.filter)
		truth := valuesOf(t, f, d)
		rows = slices.DeleteFunc(rows, func(r int) bool { return truth[r].Null || truth[r].Num == 0 })
	}
	out := api.Batch{Rows: len(rows)}
	for _, name := range m.columns {
		k := kind.Find(within, name)
		all := valuesOf(t, within.Fields[k], b.Columns[k])
		var some []api.Value
		for _, r := range rows {
			some = append(some, all[r])
		}
		d, e, _ := build.Of(within.Fields[k], some)
		if e != api.OK {
			return api.Batch{}, e
		}
		out.Columns = append(out.Columns, d)
	}
	return out, api.OK
}

// holds holds a scan of so many workers against the chapter's words, whole; it tells what All gave.
func (m model) holds(t testing.TB, workers int) ([]api.Batch, api.Fault) {
	t.Helper()
	s, x := New(m.f, m.columns, m.filter, workers)
	if want := m.wrong(workers); told(x) != told(want) || (s == nil) != (x.Err != api.OK) {
		t.Fatalf("New(%v): %v, %s, not %s", m.columns, s, told(x), told(want))
	}
	if x.Err != api.OK {
		return nil, x
	}
	if got, want := printed(s.Schema()), printed(m.schema()); got != want {
		t.Fatalf("Schema: %s, not %s", got, want)
	}
	if got, want := s.Blocks(), m.blocks(); !slices.Equal(got, want) {
		t.Fatalf("Blocks: %v, not %v", got, want)
	}
	l, fault := m.all(t)
	want := liesList(l, fault)
	for range 2 {
		got, x := gone(t, s)
		if liesList(got, x) != want {
			t.Fatalf("All: %s\nnot %s", liesList(got, x), want)
		}
	}
	table, x := s.Table()
	if x.Err != api.OK && (table.Schema.Fields != nil || table.Schema.Notes != nil || table.Batches != nil) {
		t.Fatalf("Table: beside %v: %v", x, table)
	}
	if told(x) != told(fault) || x.Err == api.OK && (liesList(table.Batches, x) != want || printed(table.Schema) != printed(m.schema())) {
		t.Fatalf("Table: %v, %v", table, x)
	}
	return l, fault
}
