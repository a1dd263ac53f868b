package pick

import (
	"math"
	"strings"
	"testing"

	"colonnade/api"
)

// takes holds Take of values by numbers, all given as text, against a list of values, or an error.
func takes(t *testing.T, f, values, by, want string, err api.Errno) {
	t.Helper()
	g := field(t, f)
	d, e := Take(g, data(t, g, words(values)...), data(t, indexField, words(by)...))
	var w api.Data
	if err == api.OK {
		w = data(t, g, words(want)...)
	}
	holds(t, "Take("+f+", "+values+", "+by+")", d, e, w, err)
}

func words(s string) []string { return strings.Fields(s) }

// Example 1, and example 5 of the whole.
func TestExampleTake(t *testing.T) {
	takes(t, "int8", "5 6 7", "2 0 0", "7 5 5", api.OK)
	takes(t, "int8?", "5 null", "1 null", "null null", api.OK)
	takes(t, "int8", "5", "null", "", api.ErrValue)
	takes(t, "int8", "5", "1", "", api.ErrRange)
	takes(t, "int8", "5", "-1", "", api.ErrRange)
	takes(t, "int8", "5", "1 null", "", api.ErrRange)
	takes(t, "int8", "5", "null 1", "", api.ErrValue)
	takes(t, "int8?", "5 6 7", "2 null 0", "7 null 5", api.OK)
	takes(t, "int8", "5 6 7", "2 null 0", "", api.ErrValue)
}

// Example 2.
func TestExampleDict(t *testing.T) {
	takes(t, "dict(0, uint8, w text)", `"a" "b"`, "1 1", `"b" "b"`, api.OK)
	f := field(t, "dict(0, uint8, w text)")
	d, e := Take(f, data(t, f, `"a"`, `"b"`), index(t, 1, 1))
	if e != api.OK || len(d.Dict) != 1 || d.Dict[0].Length != 1 || string(d.Dict[0].Buffers[2]) != "b" || string(d.Buffers[1]) != "\x00\x00" {
		t.Errorf("Take: %v, %d", d, e)
	}
}

// Example 3.
func TestExampleFilter(t *testing.T) {
	f := field(t, "text")
	l := data(t, f, `"a"`, `"b"`, `"c"`)
	d, e := Filter(f, l, data(t, maskField, "true", "null", "true"))
	holds(t, "Filter", d, e, data(t, f, `"a"`, `"c"`), api.OK)
	d, e = Filter(f, l, data(t, maskField, "true", "true"))
	holds(t, "Filter by two rows", d, e, api.Data{}, api.ErrUnlike)
}

// Example 4.
func TestExampleCut(t *testing.T) {
	f := field(t, "int8")
	l := data(t, f, "1", "2", "3")
	d, e := Cut(f, l, 1, 2)
	holds(t, "Cut(1, 2)", d, e, data(t, f, "2", "3"), api.OK)
	for _, x := range [][2]int{{1, 3}, {-1, 0}, {0, math.MaxInt}} {
		d, e = Cut(f, l, x[0], x[1])
		holds(t, "Cut", d, e, api.Data{}, api.ErrRange)
	}
	d, e = Cut(f, l, 3, 0)
	holds(t, "Cut(3, 0)", d, e, data(t, f), api.OK)
}

// Example 5.
func TestExampleTakeRows(t *testing.T) {
	s := schema(t, "a int8, b text?")
	a, b := s.Fields[0], s.Fields[1]
	all := api.Batch{Rows: 2, Columns: []api.Data{data(t, a, "1", "2"), data(t, b, `"x"`, "null")}}
	got, e := TakeRows(s, all, []int{1, -1})
	holdsBatch(t, "TakeRows(1, -1)", got, e, api.Batch{}, api.ErrValue)
	got, e = TakeRows(s, all, []int{1, 1, 0})
	want := api.Batch{Rows: 3, Columns: []api.Data{data(t, a, "2", "2", "1"), data(t, b, "null", "null", `"x"`)}}
	holdsBatch(t, "TakeRows(1, 1, 0)", got, e, want, api.OK)
	got, e = TakeRows(s, all, []int{2, -1})
	holdsBatch(t, "TakeRows(2, -1)", got, e, api.Batch{}, api.ErrRange)
}

// Example 6.
func TestExampleBytes(t *testing.T) {
	f := field(t, "text")
	one := formed(t, f, []api.Value{{Text: strings.Repeat("x", 17)}})
	d, e := Take(f, one, index(t, make([]int, 4096)...))
	holds(t, "Take of 4096 times 17 bytes", d, e, api.Data{}, api.ErrBytes)
	one = formed(t, f, []api.Value{{Text: strings.Repeat("x", 16)}})
	d, e = Take(f, one, index(t, make([]int, 4096)...))
	holds(t, "Take of 4096 times 16 bytes", d, e, formed(t, f, times(4096, api.Value{Text: strings.Repeat("x", 16)})), api.OK)
}
