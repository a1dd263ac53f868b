package scan

import (
	"bytes"
	"runtime"
	"slices"
	"strconv"
	"testing"
	"time"

	"colonnade/api"
)

// counted is a table of n batches of one row each, which is its number.
func counted(t testing.TB, n int) api.Table {
	t.Helper()
	l := make([]string, n)
	for i := range l {
		l[i] = strconv.Itoa(i) + ` "x"`
	}
	return tableOf(t, "a int64, b text", l...)
}

// numberOf is the number that a batch of such a table has.
func numberOf(t testing.TB, b api.Batch) int {
	t.Helper()
	return int(valuesOf(t, fieldOf(t, "a int64"), b.Columns[0])[0].Num)
}

// calm waits till there are no more goroutines than there were. (One that has told that it is done may be there for a moment still.)
func calm(t testing.TB, before int) {
	t.Helper()
	for range 2000 {
		if runtime.NumGoroutine() <= before {
			return
		}
		time.Sleep(time.Millisecond)
	}
	t.Errorf("%d goroutines, %d before", runtime.NumGoroutine(), before)
}

// All goes through the blocks in their order, also through as many as can be; when it has ended, or was left, wherever, all that it had begun has ended.
func TestAllEnds(t *testing.T) {
	f := opened(t, put(t, counted(t, 256), api.Option{}))
	before := runtime.NumGoroutine()
	for workers := 1; workers <= 8; workers++ {
		s := made(t, f, []string{"a"}, api.Expr{}, workers)
		all := s.All()
		calm(t, before)
		for _, leave := range []int{0, 1, 7, 15, 16, 17, 100, 255, 256} {
			n := 0
			for b, x := range all {
				if x.Err != api.OK || numberOf(t, b) != n {
					t.Fatalf("%d: %v, %v", n, b, x)
				}
				if n++; n > leave {
					break
				}
			}
			if n != min(leave+1, 256) {
				t.Fatalf("%d batches", n)
			}
			calm(t, before)
		}
	}
}

// Whoever panics while All is gone through leaves it, too.
func TestAllLeftByPanic(t *testing.T) {
	s := made(t, opened(t, put(t, counted(t, 40), api.Option{})), []string{"a"}, api.Expr{}, 8)
	before := runtime.NumGoroutine()
	for _, at := range []int{0, 20, 39} {
		func() {
			defer func() {
				if r := recover(); r != "left" {
					t.Errorf("%v", r)
				}
			}()
			for b := range s.All() {
				if numberOf(t, b) == at {
					panic("left")
				}
			}
		}()
		calm(t, before)
	}
}

// All is gone through again, and within itself, each time from the beginning.
func TestAllWithin(t *testing.T) {
	s := made(t, opened(t, put(t, counted(t, 20), api.Option{})), []string{"a"}, exprOf(t, "gt(a, lit(n int64 = 2))"), 3)
	all := s.All()
	before := runtime.NumGoroutine()
	var l []int
	for b := range all {
		n := numberOf(t, b)
		l = append(l, n)
		next := 3
		for c := range all {
			if numberOf(t, c) != next {
				t.Fatalf("within: %d, not %d", numberOf(t, c), next)
			}
			if next++; next > n {
				break
			}
		}
		if next != n+1 {
			t.Fatalf("within %d it ends at %d", n, next)
		}
	}
	if want := []int{3, 4, 5, 6, 7, 8, 9, 10, 11, 12, 13, 14, 15, 16, 17, 18, 19}; !slices.Equal(l, want) {
		t.Errorf("%v", l)
	}
	calm(t, before)
	if table, x := s.Table(); x.Err != api.OK || len(table.Batches) != 17 {
		t.Errorf("Table: %v", x)
	}
}

// rewritten is what All gives of the file of a table, if with each batch that is given something is written into the file's bytes.
func rewritten(t testing.TB, table api.Table, workers int, write func(b []byte, given int)) string {
	t.Helper()
	b := put(t, table, api.Option{})
	s := made(t, opened(t, b), []string{"a"}, exprOf(t, "ge(a, lit(n int64 = 0))"), workers)
	var l []api.Batch
	var fault api.Fault
	for c, x := range s.All() {
		if fault = x; x.Err == api.OK {
			l = append(l, c)
			write(b, len(l))
		}
	}
	return liesList(l, fault)
}

// P24.1, P24.4: the file's bytes stay looked into; whoever writes into them while All is gone through, hears the same from any number of workers.
func TestWritesWithin(t *testing.T) {
	table := counted(t, 100)
	f := opened(t, put(t, table, api.Option{}))
	for i, write := range []func(b []byte, given int){
		func(b []byte, given int) {
			x, _ := f.Block(min(given+20, 99))
			b[x.At]++
		},
		func(b []byte, given int) {
			x, _ := f.Block((given*7 + 40) % 100)
			m := messageAt(b, x)
			m.Body[0] = 111
			relay(t, b, x, m)
		},
		func(b []byte, _ int) { clear(b) },
	} {
		want := rewritten(t, table, 1, write)
		for workers := 2; workers <= 8; workers++ {
			if got := rewritten(t, table, workers, write); got != want {
				t.Errorf("%d: %d workers: %s\nnot %s", i, workers, got, want)
			}
		}
	}
}

// P24.4: what is written into the file's bytes is seen when it is gone through again; what the foot said stays.
func TestWritesBetween(t *testing.T) {
	b := put(t, small(t), api.Option{})
	f := opened(t, b)
	s := made(t, f, []string{"b"}, exprOf(t, above5), 4)
	x, _ := f.Block(1)
	was := slices.Clone(b)
	m := messageAt(b, x)
	at := bytes.IndexByte(m.Body, 'z')
	m.Body[at] = 'w'
	relay(t, b, x, m)
	if got := texts(t, s); !isText(got, []string{`"w"`}) {
		t.Errorf("another text: %v", got)
	}
	m.Body[bytes.IndexByte(m.Body, 7)] = 5
	relay(t, b, x, m)
	if got := texts(t, s); !isText(got) {
		t.Errorf("no row any more: %v", got)
	}
	b[x.At]++
	if l, x := gone(t, s); len(l) != 0 || told(x) != told(api.Fault{Err: api.ErrBlock, At: 1}) {
		t.Errorf("%d batches, %v", len(l), x)
	}
	copy(b, was)
	// What Open looked at once may be gone.
	clear(b[:8])
	clear(b[len(b)-200:])
	if got := texts(t, s); !isText(got, []string{`"z"`}) {
		t.Errorf("as it was: %v", got)
	}
	if again := made(t, f, []string{"b"}, exprOf(t, above5), 4); !slices.Equal(again.Blocks(), []int{1}) || !isText(texts(t, again), []string{`"z"`}) {
		t.Errorf("a scan that is made then: %v", again.Blocks())
	}
}

// Several may go through one scan, and through scans of one file, at the same time.
func TestTogether(t *testing.T) {
	f := opened(t, put(t, counted(t, 60), api.Option{Press: api.PressBack}))
	s := made(t, f, []string{"a"}, exprOf(t, "lt(a, lit(n int64 = 50))"), 4)
	done := make(chan bool)
	for k := range 6 {
		go func() {
			own := s
			if k%2 == 0 {
				own = made(t, f, []string{"a"}, exprOf(t, "lt(a, lit(n int64 = 50))"), k+1)
			}
			n := 0
			for b, x := range own.All() {
				if x.Err != api.OK || b.Rows != 1 || len(b.Columns) != 1 || b.Columns[0].Buffers[1][0] != byte(n) {
					break
				}
				n++
			}
			done <- n == 50
		}()
	}
	for range 6 {
		if !<-done {
			t.Error("another answer")
		}
	}
}
