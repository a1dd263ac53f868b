package order

import (
	"math/rand"
	"runtime"
	"slices"
	"strconv"
	"strings"
	"testing"
	"time"

	"colonnade/api"
	"colonnade/value"
)

// P19.1, P19.2, P19.4: all calls of one batch tell what the chapter's words say, however the batch lies, by any number of workers.
func TestOrder(t *testing.T) {
	c := newChance(1)
	for range 4000 {
		s := c.schema(4)
		rows := c.rows(s, c.Intn(14))
		keys := c.keys(s)
		b := c.batch(t, s, rows)
		want := modelSort(s, keys, rows)
		workers := 1 + c.Intn(api.MaxWorkers)
		if l, e := Sort(s, b, keys, workers); e != api.OK || !slices.Equal(l, want) {
			t.Fatalf("Sort of %v by %v: %v, %d, not %v", rows, keys, l, e, want)
		}
		n := c.Intn(16)
		if l, e := Top(s, b, keys, n, workers); e != api.OK || !slices.Equal(l, want[:min(n, len(want))]) {
			t.Fatalf("Top %d of %v by %v: %v, %d, of %v", n, rows, keys, l, e, want)
		}
		if l, e := Ranks(s, b, keys); e != api.OK || !slices.Equal(l, modelRanks(s, keys, rows)) {
			t.Fatalf("Ranks of %v by %v: %v, %d", rows, keys, l, e)
		}
		if is, e := Sorted(s, b, keys); e != api.OK || is != modelSorted(s, keys, rows) {
			t.Fatalf("Sorted of %v by %v: %v, %d", rows, keys, is, e)
		}
	}
}

// risingValues are values of fields, each ahead of the next one.
var risingValues = []struct{ field, texts string }{
	{"null?", "null"},
	{"bool?", "null false true"},
	{"int8?", "null -128 -1 0 1 127"},
	{"int16", "-32768 -129 -128 -1 0 1 255 256 32767"},
	{"int32", "-2147483648 -65536 -1 0 1 65535 65536 2147483647"},
	{"int64", "-9223372036854775808 -4294967296 -1 0 1 4294967295 4294967296 9223372036854775807"},
	{"uint8", "0 1 127 128 255"},
	{"uint16", "0 255 256 32767 32768 65535"},
	{"uint32", "0 65535 65536 2147483647 2147483648 4294967295"},
	{"uint64?", "null 0 1 9223372036854775807 9223372036854775808 18446744073709551615"},
	{"float64?", "null -nanfffffffffffff -nan8000000000000 -nan0000000000001 -inf -1p1023 -3p0 -1p0 -1p-1074 -0p0 0p0 1p-1074 1p-1022 1p0 3p-1 1p1 1p1023 inf nan0000000000001 nan8000000000000 nanfffffffffffff"},
	{"text?", `null "" "\x00" "\x00\x00" "\x00\x01" "\x00a" "\x01" "\x01\x00" "a" "a\x00" "a\x00\x00" "a\x01" "aa" "ab" "b" "é" "€" "😀"`},
	{"bytes", `x"" x"00" x"0000" x"000000" x"0001" x"00ff" x"01" x"0100" x"7f" x"80" x"fe" x"feff" x"ff" x"ff00" x"ff01" x"ffff"`},
	{"fixed(2)", `x"0000" x"0001" x"00ff" x"0100" x"7fff" x"8000" x"ff00" x"ffff"`},
	{"list(i int8?)?", "null [] [null] [null,null] [null,0] [-128] [-1] [-1,null] [0] [0,null] [0,null,null] [0,0] [0,0,null] [0,1] [1] [127]"},
	{"list(i text)", `[] [""] ["",""] ["","a"] ["\x00"] ["\x00",""] ["a"] ["a",""] ["a","a"] ["a\x00"] ["ab"]`},
	{"list(i list(j bool?))", "[] [[]] [[],[]] [[],[null]] [[null]] [[null],[]] [[null,null]] [[null,false]] [[false]] [[false],[]] [[true]]"},
	{"span(2, i uint8?)?", "null [null,null] [null,0] [null,255] [0,null] [0,0] [1,null] [255,255]"},
	{"struct()?", "null {}"},
	{"struct(a text?, b int8?)?", `null {a:null,b:null} {a:null,b:-1} {a:"",b:null} {a:"",b:-128} {a:"",b:127} {a:"\x00",b:null} {a:"a",b:0} {a:"ab",b:-1}`},
	{"choice(a int8, b text?, c int8)", `a(-1) a(0) a(127) b(null) b("") b("a") b("b") c(-128) c(1)`},
	{"dict(0, uint8, w float64)?", "null -inf -0p0 0p0 1p0"},
	{"dict(0, int8, w list(i text?))", `[] [null] [""] ["a"] ["a",null] ["b"]`},
	{"runs(v uint64?)?", "null 0 9223372036854775808 18446744073709551615"},
	{"runs(v runs(w dict(0, int64, x bytes)?)?)?", `null x"" x"00" x"01" x"ff"`},
	{"list(i runs(v choice(a bool)))", "[] [a(false)] [a(false),a(false)] [a(false),a(true)] [a(true)]"},
}

// valuesOf reads values of a field.
func valuesOf(t testing.TB, f api.Field, texts string) []api.Value {
	t.Helper()
	var l []api.Value
	for _, word := range strings.Fields(texts) {
		v, e, at := value.Parse(f, word)
		if e != api.OK {
			t.Fatalf("%s: %d at %d", word, e, at)
		}
		l = append(l, v)
	}
	return l
}

// expected tells the values' numbers in the order of a key, if they rise as they are numbered.
func expected(l []api.Value, key api.Key) []int {
	nulls, others := []int{}, []int{}
	for i, v := range l {
		if v.Null {
			nulls = append(nulls, i)
		} else {
			others = append(others, i)
		}
	}
	if key.Down {
		slices.Reverse(others)
	}
	if key.Last {
		return append(others, nulls...)
	}
	return append(nulls, others...)
}

// P19.1, P19.2: the order of each kind's values, at its edges, with nulls ahead and last, up and down; and of a second key behind it.
func TestKinds(t *testing.T) {
	c := newChance(2)
	for _, x := range risingValues {
		s := schemaOf(t, "a "+x.field+", n int16")
		l := valuesOf(t, s.Fields[0], x.texts)
		for _, key := range []api.Key{{}, {Down: true}, {Last: true}, {Down: true, Last: true}} {
			// Each value twice, so that the second key is asked too.
			places := c.Perm(2 * len(l))
			rows := make([][]api.Value, len(places))
			for i, p := range places {
				rows[i] = []api.Value{l[p/2], {Num: int64(p % 2)}}
			}
			b := c.batch(t, s, rows)
			order, e := Sort(s, b, []api.Key{key, {Column: 1, Down: true}}, 3)
			if e != api.OK || len(order) != len(places) {
				t.Fatalf("%s %v: %d", x.field, key, e)
			}
			var got []int
			for _, i := range order {
				got = append(got, places[i])
			}
			var want []int
			for _, k := range expected(l, key) {
				want = append(want, 2*k+1, 2*k)
			}
			if !slices.Equal(got, want) {
				t.Errorf("%s %v: %v, not %v", x.field, key, got, want)
			}
		}
	}
}

// P19.2: as many keys as may be; each counts behind those ahead of it alone.
func TestManyKeys(t *testing.T) {
	s := schemaOf(t, "a bool?, b bool, c text, d bool?, e uint8, f bool, g list(i bool), h bool?, i bool")
	c := newChance(3)
	for range 300 {
		rows := c.rows(s, 40)
		var keys []api.Key
		for _, k := range c.Perm(len(s.Fields))[:api.MaxKeys] {
			keys = append(keys, api.Key{Column: k, Down: c.in(2), Last: c.in(2)})
		}
		l, e := Sort(s, c.batch(t, s, rows), keys, 1+c.Intn(8))
		if want := modelSort(s, keys, rows); e != api.OK || !slices.Equal(l, want) {
			t.Fatalf("%v: %v, %d, not %v", keys, l, e, want)
		}
	}
}

// P19.2: no columns, no rows, no keys.
func TestNothing(t *testing.T) {
	none := api.Schema{}
	if l, e := Sort(none, api.Batch{Rows: 3}, nil, 2); e != api.OK || !slices.Equal(l, []int{0, 1, 2}) {
		t.Errorf("no columns: %v, %d", l, e)
	}
	if l, e := Ranks(none, api.Batch{Rows: 3}, nil); e != api.OK || !slices.Equal(l, []int{0, 0, 0}) {
		t.Errorf("no columns: %v, %d", l, e)
	}
	if is, e := Sorted(none, api.Batch{Rows: 3}, nil); e != api.OK || !is {
		t.Errorf("no columns: %v, %d", is, e)
	}
	if l, e := Merge(none, []api.Batch{{Rows: 1}, {}, {Rows: 2}}, nil); e != api.OK || !slices.Equal(l, [][2]int{{0, 0}, {2, 0}, {2, 1}}) {
		t.Errorf("no columns: %v, %d", l, e)
	}
	for workers := 1; workers <= api.MaxWorkers; workers++ {
		if l, e := Sort(none, api.Batch{}, nil, workers); e != api.OK || len(l) != 0 {
			t.Errorf("no rows, %d workers: %v, %d", workers, l, e)
		}
		if l, e := Top(none, api.Batch{}, nil, 5, workers); e != api.OK || len(l) != 0 {
			t.Errorf("no rows, %d workers: %v, %d", workers, l, e)
		}
	}
	if l, e := Ranks(none, api.Batch{}, nil); e != api.OK || len(l) != 0 {
		t.Errorf("no rows: %v, %d", l, e)
	}
}

// fullBatch makes a batch of as many rows as may be, with many alike ones.
func fullBatch(t testing.TB, s api.Schema, seed int64) (api.Batch, [][]api.Value) {
	r := rand.New(rand.NewSource(seed))
	rows := make([][]api.Value, api.MaxRows)
	for i := range rows {
		n := api.Value{Num: int64(r.Intn(300)) - 150}
		if n.Num > 140 {
			n = null
		}
		rows[i] = []api.Value{n, {Text: strconv.Itoa(r.Intn(4))}}
	}
	return batchOf(t, s, rows), rows
}

// P19.1, P19.2: batches as great as may be are sorted alike by any number of workers, time and again.
func TestWorkers(t *testing.T) {
	s := schemaOf(t, "a int64?, b text")
	b, rows := fullBatch(t, s, 4)
	for _, keys := range [][]api.Key{{{Column: 0}}, {{Column: 0, Down: true, Last: true}}, {{Column: 1}, {Column: 0, Last: true}}, nil} {
		want := make([]int, len(rows))
		for i := range want {
			want[i] = i
		}
		slices.SortStableFunc(want, func(i, j int) int {
			switch {
			case modelAhead(s, keys, rows[i], rows[j]):
				return -1
			case modelAhead(s, keys, rows[j], rows[i]):
				return 1
			}
			return 0
		})
		for workers := 1; workers <= api.MaxWorkers; workers++ {
			for range 3 {
				if l, e := Sort(s, b, keys, workers); e != api.OK || !slices.Equal(l, want) {
					t.Fatalf("%v by %d workers: %d", keys, workers, e)
				}
				for _, n := range []int{0, 1, 7, 4095, 4096, 4097, 1 << 62} {
					if l, e := Top(s, b, keys, n, workers); e != api.OK || !slices.Equal(l, want[:min(n, len(want))]) {
						t.Fatalf("Top %d of %v by %d workers: %d", n, keys, workers, e)
					}
				}
			}
		}
	}
}

// P19.1: as many rows as any number of workers has trouble to share.
func TestFewRows(t *testing.T) {
	s := schemaOf(t, "a int8")
	for n := range 20 {
		var rows [][]api.Value
		for i := range n {
			rows = append(rows, []api.Value{{Num: int64(-i)}})
		}
		for workers := 1; workers <= api.MaxWorkers; workers++ {
			l, e := Sort(s, batchOf(t, s, rows), []api.Key{{}}, workers)
			if slices.Reverse(l); e != api.OK || !slices.Equal(l, expected(columnOf(rows, 0), api.Key{})) {
				t.Fatalf("%d rows, %d workers: %v, %d", n, workers, l, e)
			}
		}
	}
}

// P19.1: when a call has answered its workers have ended.
func TestEnded(t *testing.T) {
	s := schemaOf(t, "a int64?, b text")
	b, _ := fullBatch(t, s, 5)
	was := runtime.NumGoroutine()
	for i := range 60 {
		if _, e := Sort(s, b, []api.Key{{Column: i % 2}}, api.MaxWorkers); e != api.OK {
			t.Fatal(e)
		}
		if _, e := Top(s, b, []api.Key{{Column: i % 2}}, 3, api.MaxWorkers); e != api.OK {
			t.Fatal(e)
		}
	}
	// One that has said that it is done may need a moment to go.
	for range 1000 {
		if runtime.NumGoroutine() <= was {
			return
		}
		time.Sleep(time.Millisecond)
	}
	t.Errorf("%d run, of %d", runtime.NumGoroutine(), was)
}

// P19.1: several may call at the same time.
func TestAtOnce(t *testing.T) {
	s := schemaOf(t, "a int64?, b text")
	b, _ := fullBatch(t, s, 6)
	keys := []api.Key{{Column: 1, Down: true}, {Column: 0}}
	want, _ := Sort(s, b, keys, 1)
	answers := make(chan []int)
	for k := range 16 {
		go func() {
			l, _ := Sort(s, b, keys, 1+k%api.MaxWorkers)
			answers <- l
		}()
	}
	for range 16 {
		if l := <-answers; !slices.Equal(l, want) {
			t.Error("another order")
		}
	}
}

// P19.1: a value as heavy as may be among thousands of light ones takes no more time than others.
func TestHeavy(t *testing.T) {
	s := schemaOf(t, "a list(i dict(0, uint16, w text))")
	heavy := api.Value{}
	for range 3000 {
		heavy.List = append(heavy.List, api.Value{Text: strings.Repeat("x", 1300)})
	}
	rows := [][]api.Value{{heavy}}
	for i := range 1000 {
		rows = append(rows, []api.Value{{List: []api.Value{{Text: strconv.Itoa(i)}}}})
	}
	b := batchOf(t, s, rows)
	for _, key := range []api.Key{{}, {Down: true}} {
		l, e := Sort(s, b, []api.Key{key}, 4)
		if e != api.OK || len(l) != len(rows) {
			t.Fatal(e)
		}
		place := slices.Index(l, 0)
		if want := map[bool]int{true: 0, false: 1000}[key.Down]; place != want {
			t.Errorf("%v: place %d", key, place)
		}
	}
}
