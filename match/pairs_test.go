package match

import (
	"math"
	"slices"
	"testing"

	"colonnade/api"
)

// numbers is a column of numbers.
func numbers(t testing.TB, f string, l ...int64) side {
	t.Helper()
	s := schemaOf(t, f)
	d := formOf(t, s.Fields[0], list(l...).List)
	return side{s, api.Batch{Rows: len(l), Columns: []api.Data{d}}}
}

// list is a value of numbers.
func list(l ...int64) api.Value {
	var v api.Value
	for _, n := range l {
		v.List = append(v.List, api.Value{Num: n})
	}
	return v
}

// rising is the numbers from one on, so many.
func rising(from int64, n int) []int64 {
	l := make([]int64, n)
	for i := range l {
		l[i] = from + int64(i)
	}
	return l
}

// onFirst asks by the first column of both.
func onFirst(join int, l, r side) ask { return ask{join, l, r, []int{0}, []int{0}} }

// P21.1: any batches, by any keys, in all kinds of joins.
func TestAnyPairs(t *testing.T) {
	c := newChance(11)
	some, keys := map[int]int{}, map[int]int{}
	for range 1500 {
		a := c.ask(t, 10)
		for _, a.join = range joins {
			want, e := a.modelPairs(t)
			holdsPairs(t, "any", a, want, e)
			if e != api.OK {
				t.Fatalf("the model: %d", e)
			}
			if len(want) > 1 {
				some[a.join]++
				keys[len(a.k1)]++
			}
		}
	}
	for _, join := range joins {
		if some[join] < 300 || keys[1] < 400 || keys[2] < 200 || keys[3] < 80 {
			t.Errorf("too few pairs: %v of kinds of joins, %v of numbers of keys", some, keys)
		}
	}
}

// P21.1: what is the same, and what isn't; nulls meet nothing, but such as stand within a value.
func TestMeeting(t *testing.T) {
	for _, x := range []struct{ left, leftValues, right, rightValues, want string }{
		{"a int8?", "null 0 1", "b int8?", "null 0 null 1", "1,1 2,3"},
		{"a null?", "null null", "b null?", "null", ""},
		{"a bool?", "true false null", "b bool", "false true true", "0,1 0,2 1,0"},
		{"a text?", `"" null "null" "a"`, "b text?", `null "" "null" "ab"`, "0,1 2,2"},
		{"a text", `"a" "A" "a"`, "b text", `"a" "a"`, "0,0 0,1 2,0 2,1"},
		{"a float64", "0p0 -0p0 nan8000000000000 -nan8000000000000 nan8000000000001 inf 1p0", "b float64", "-0p0 0p0 nan8000000000000 nan8000000000001 inf -inf", "0,1 1,0 2,2 4,3 5,4"},
		{"a uint64", "18446744073709551615 0", "b uint64?", "0 18446744073709551615 null", "0,1 1,0"},
		{"a list(i int8?)?", "[null] null [] [null,null] [0]", "b list(i int8?)", "[] [null] [0] [null,null]", "0,1 2,0 3,3 4,2"},
		{"a list(i list(j int8))", "[[1],[2]] [[1,2]] [[],[1,2]]", "b list(i list(j int8))", "[[1,2]] [[1,2],[]] [[1],[2]]", "0,2 1,0"},
		{"a struct(x null?, y int8?)", "{x:null,y:null} {x:null,y:1}", "b struct(x null?, y int8?)?", "null {x:null,y:1} {x:null,y:null}", "0,2 1,1"},
		{"a struct()?", "{} null", "b struct()", "{}", "0,0"},
		{"a choice(x int8, y int8, z int8?)", "x(1) y(1) z(null) z(0)", "b choice(x int8, y int8, z int8?)", "y(1) x(1) z(null) x(0)", "0,1 1,0 2,2"},
		{"a fixed(2)", `x"0000" x"0001"`, "b fixed(2)?", `x"0001" null x"0000"`, "0,2 1,0"},
		{"a bytes", `x"" x"00"`, "b bytes", `x"00" x"0000" x""`, "0,2 1,0"},
		{"a span(2, i int8)", "[1,2] [2,1]", "b span(2, i int8)", "[2,1] [1,1]", "1,0"},
		{"a dict(0, uint8, w text)?", `"b" null "a" "b"`, "b text", `"a" "b"`, "0,1 2,0 3,1"},
		{"a runs(v int8?)?", "1 1 null 2", "b dict(5, int64, w int8)?", "2 null 1", "0,2 1,2 3,0"},
		{"a list(i dict(0, int8, w text)?)", `["x",null] [] ["y"]`, "b runs(v list(i runs(r text?)?)?)?", `null ["y"] ["x",null] ["x",null]`, "0,2 0,3 2,1"},
		{"a struct(x runs(v dict(0, int8, w choice(p int8))?)?)", "{x:null} {x:p(1)}", "b struct(x dict(9, uint16, v choice(p int8))?)", "{x:p(1)} {x:null}", "0,1 1,0"},
		{"a dict(0, int8, w choice(p int8))?", "p(1) null p(2)", "b choice(p int8)", "p(2) p(1)", "0,1 2,0"},
	} {
		l, r := sideOf(t, x.left, x.leftValues), sideOf(t, x.right, x.rightValues)
		holdsPairs(t, x.left, onFirst(api.JoinInner, l, r), pairsIn(t, x.want), api.OK)
		turned := pairsIn(t, x.want)
		for i, p := range turned {
			turned[i] = [2]int{p[1], p[0]}
		}
		slices.SortFunc(turned, func(p, q [2]int) int { return slices.Compare(p[:], q[:]) })
		holdsPairs(t, x.right, onFirst(api.JoinInner, r, l), turned, api.OK)
		for _, join := range joins {
			onFirst(join, l, r).holds(t, x.left)
			onFirst(join, r, l).holds(t, x.right)
		}
	}
}

// P21.1: of several keys each must be the same, the first one of the left with the first one of the right.
func TestSeveralKeys(t *testing.T) {
	l := sideOf(t, "a text, n int8, b text", `"x" "y" "x" "xy"`, "1 2 3 4", `"y" "x" "y" ""`)
	r := sideOf(t, "c text, d text?", `"y" "x" "x" "x"`, `"x" "y" null "y"`)
	for _, x := range []struct {
		k1, k2 []int
		want   string
	}{
		{[]int{0, 2}, []int{0, 1}, "0,1 0,3 1,0 2,1 2,3"},
		{[]int{2, 0}, []int{1, 0}, "0,1 0,3 1,0 2,1 2,3"},
		{[]int{0, 2}, []int{1, 0}, "0,0 1,1 1,3 2,0"},
		{[]int{0}, []int{0}, "0,1 0,2 0,3 1,0 2,1 2,2 2,3"},
		{[]int{2}, []int{1}, "0,1 0,3 1,0 2,1 2,3"},
	} {
		holdsPairs(t, "several keys", ask{api.JoinInner, l, r, x.k1, x.k2}, pairsIn(t, x.want), api.OK)
	}
	// A null in one key is enough.
	l, r = sideOf(t, "a int8?, b int8?", "1 1 null null", "2 null 2 null"), sideOf(t, "c int8?, d int8?", "null 1 1 null", "2 2 null null")
	both := []int{0, 1}
	for join, want := range map[int]string{api.JoinInner: "0,1", api.JoinLeft: "0,1 1,-1 2,-1 3,-1", api.JoinFull: "0,1 1,-1 2,-1 3,-1 -1,0 -1,2 -1,3", api.JoinSemi: "0,-1", api.JoinAnti: "1,-1 2,-1 3,-1"} {
		holdsPairs(t, "nulls", ask{join, l, r, both, both}, pairsIn(t, want), api.OK)
	}
	// A batch with itself; the same column may be a key of both.
	holdsPairs(t, "itself", ask{api.JoinFull, l, l, both, both}, pairsIn(t, "0,0 1,-1 2,-1 3,-1 -1,1 -1,2 -1,3"), api.OK)
}

// P21.1: no rows left, right, or both.
func TestNoRows(t *testing.T) {
	some, empty := numbers(t, "a int64", 5, 6), numbers(t, "a int64")
	for join, want := range map[int][3]string{
		api.JoinInner: {}, api.JoinLeft: {"0,-1 1,-1"}, api.JoinFull: {"0,-1 1,-1", "-1,0 -1,1"}, api.JoinSemi: {}, api.JoinAnti: {"0,-1 1,-1"},
	} {
		holdsPairs(t, "no right rows", onFirst(join, some, empty), pairsIn(t, want[0]), api.OK)
		holdsPairs(t, "no left rows", onFirst(join, empty, some), pairsIn(t, want[1]), api.OK)
		holdsPairs(t, "no rows", onFirst(join, empty, empty), pairsIn(t, want[2]), api.OK)
	}
}

// P21.1: just MaxRows pairs, and one more.
func TestHowManyPairs(t *testing.T) {
	ones := func(n int) []int64 { return slices.Repeat([]int64{1}, n) }
	for i, x := range []struct {
		left, right []int64
		counts      map[int]int // of pairs; -1: too many
	}{
		{ones(64), ones(64), map[int]int{api.JoinInner: 4096, api.JoinLeft: 4096, api.JoinFull: 4096, api.JoinSemi: 64, api.JoinAnti: 0}},
		{append(ones(64), 2), ones(64), map[int]int{api.JoinInner: 4096, api.JoinLeft: -1, api.JoinFull: -1, api.JoinSemi: 64, api.JoinAnti: 1}},
		{ones(64), append(ones(64), 2), map[int]int{api.JoinInner: 4096, api.JoinLeft: 4096, api.JoinFull: -1, api.JoinSemi: 64, api.JoinAnti: 0}},
		{append(ones(64), 2), append(ones(64), 2), map[int]int{api.JoinInner: -1, api.JoinLeft: -1, api.JoinFull: -1, api.JoinSemi: 65, api.JoinAnti: 0}},
		{ones(4096), ones(1), map[int]int{api.JoinInner: 4096, api.JoinLeft: 4096, api.JoinFull: 4096, api.JoinSemi: 4096, api.JoinAnti: 0}},
		{ones(1), ones(4096), map[int]int{api.JoinInner: 4096, api.JoinLeft: 4096, api.JoinFull: 4096, api.JoinSemi: 1, api.JoinAnti: 0}},
		{ones(4096), ones(4096), map[int]int{api.JoinInner: -1, api.JoinLeft: -1, api.JoinFull: -1, api.JoinSemi: 4096, api.JoinAnti: 0}},
		{rising(0, 4096), rising(0, 4096), map[int]int{api.JoinInner: 4096, api.JoinLeft: 4096, api.JoinFull: 4096, api.JoinSemi: 4096, api.JoinAnti: 0}},
		{rising(0, 4096), rising(1, 4096), map[int]int{api.JoinInner: 4095, api.JoinLeft: 4096, api.JoinFull: -1, api.JoinSemi: 4095, api.JoinAnti: 1}},
		{rising(0, 2048), rising(2048, 2048), map[int]int{api.JoinInner: 0, api.JoinLeft: 2048, api.JoinFull: 4096, api.JoinSemi: 0, api.JoinAnti: 2048}},
		{rising(0, 2048), rising(2048, 2049), map[int]int{api.JoinInner: 0, api.JoinLeft: 2048, api.JoinFull: -1, api.JoinSemi: 0, api.JoinAnti: 2048}},
		{rising(0, 2049), rising(2049, 2048), map[int]int{api.JoinInner: 0, api.JoinLeft: 2049, api.JoinFull: -1, api.JoinSemi: 0, api.JoinAnti: 2049}},
		{rising(0, 4096), []int64{0, 0}, map[int]int{api.JoinInner: 2, api.JoinLeft: -1, api.JoinFull: -1, api.JoinSemi: 1, api.JoinAnti: 4095}},
		{rising(0, 4096), []int64{4095, 4095}, map[int]int{api.JoinInner: 2, api.JoinLeft: -1, api.JoinFull: -1, api.JoinSemi: 1, api.JoinAnti: 4095}},
		{rising(0, 4095), []int64{7, 7}, map[int]int{api.JoinInner: 2, api.JoinLeft: 4096, api.JoinFull: 4096, api.JoinSemi: 1, api.JoinAnti: 4094}},
	} {
		l, r := numbers(t, "a int64", x.left...), numbers(t, "b int64", x.right...)
		for join, n := range x.counts {
			p, e := onFirst(join, l, r).pairs()
			if n < 0 && (e != api.ErrRows || len(p) > 0) || n >= 0 && (e != api.OK || len(p) != n) {
				t.Errorf("line %d, join %d: %d pairs, %d, not %d", i, join, len(p), e, n)
			}
			if _, b, e := onFirst(join, l, r).both(); n < 0 && (e != api.ErrRows || b.Rows+len(b.Columns) > 0) || n >= 0 && (e != api.OK || b.Rows != n) {
				t.Errorf("line %d, join %d: %d rows, %d, not %d", i, join, b.Rows, e, n)
			}
		}
	}
}

// P21.1: as many keys as may be, of as many columns.
func TestManyKeys(t *testing.T) {
	s := "a int8, b int8, c int8, d int8, e int8, f int8, g int8, h int8, i int8"
	l := sideOf(t, s, "1 1 1", "2 2 2", "3 3 3", "4 4 4", "5 5 5", "6 6 6", "7 7 7", "8 8 0", "9 0 9")
	r := sideOf(t, s, "9 9", "8 8", "7 7", "6 6", "5 5", "4 4", "3 3", "2 2", "1 0")
	k1, k2 := []int{0, 1, 2, 3, 4, 5, 6, 7}, []int{8, 7, 6, 5, 4, 3, 2, 1}
	holdsPairs(t, "eight keys", ask{api.JoinFull, l, r, k1, k2}, pairsIn(t, "0,0 1,0 2,-1 -1,1"), api.OK)
	holdsPairs(t, "eight keys", ask{api.JoinInner, l, r, []int{8, 7, 6, 5, 4, 3, 2, 1}, []int{0, 1, 2, 3, 4, 5, 6, 7}}, pairsIn(t, "0,0 0,1"), api.OK)
}

// P21.1: what is wrong with the kind, and with keys, ahead of it and behind it.
func TestKinds(t *testing.T) {
	for _, join := range []int{0, 6, -1, math.MinInt, math.MaxInt, api.JoinInner + 256, api.JoinFull + 1<<32} {
		a := example(t, join, []int{0}, []int{0})
		a.refused(t, "no kind", api.ErrArg, api.ErrArg)
		a.k1 = nil
		a.refused(t, "no kind, no key", api.ErrArg, api.ErrArg)
		a.k1 = []int{1}
		a.refused(t, "no kind, unlike keys", api.ErrArg, api.ErrArg)
	}
}

func TestKeys(t *testing.T) {
	s := "a int8, b int8, c int8, d int8, e int8, f int8, g int8, h int8, i int8"
	one := slices.Repeat([]string{"1"}, 9)
	l, r := sideOf(t, s+", t text", append(one, `"x"`)...), sideOf(t, s, one...)
	nine := []int{0, 1, 2, 3, 4, 5, 6, 7, 8}
	for _, x := range []struct {
		k1, k2 []int
		want   api.Errno
	}{
		{nil, nil, api.ErrKey}, {nil, []int{0}, api.ErrKey}, {[]int{0}, nil, api.ErrKey}, {[]int{0, 1}, []int{0}, api.ErrKey},
		{nine, nine, api.ErrKey}, {nine[:8], nine, api.ErrKey}, {nine, nine[:8], api.ErrKey}, {make([]int, 5000), make([]int, 5000), api.ErrKey}, {nine[:8], nine[1:], api.OK},
		{[]int{9}, []int{0}, api.ErrUnlike}, {[]int{10}, []int{0}, api.ErrKey}, {[]int{0}, []int{9}, api.ErrKey}, {[]int{8}, []int{8}, api.OK},
		{[]int{-1}, []int{0}, api.ErrKey}, {[]int{0}, []int{-1}, api.ErrKey}, {[]int{math.MaxInt}, []int{0}, api.ErrKey}, {[]int{0}, []int{math.MinInt}, api.ErrKey},
		{[]int{1, 1}, []int{1, 2}, api.ErrKey}, {[]int{1, 2}, []int{1, 1}, api.ErrKey}, {[]int{1, 2, 1}, []int{3, 4, 5}, api.ErrKey}, {[]int{1, 2}, []int{2, 1}, api.OK},
		{[]int{9, 0}, []int{0, 9}, api.ErrKey}, {[]int{9, 0}, []int{0, 0}, api.ErrKey}, {[]int{9, 9}, []int{0, 1}, api.ErrKey}, {[]int{0, 9}, []int{0, 1}, api.ErrUnlike}, {[]int{0, 9}, []int{0, -1}, api.ErrKey},
	} {
		for _, join := range joins {
			a := ask{join, l, r, x.k1, x.k2}
			if got := a.modelKeys(); got != x.want {
				t.Errorf("the model, by %v, %v: %d", x.k1, x.k2, got)
			}
			if x.want != api.OK {
				a.refused(t, "keys", x.want, x.want)
			} else if p, e := a.pairs(); e != api.OK || len(p) > 1 {
				t.Errorf("by %v, %v: %v, %d", x.k1, x.k2, p, e)
			}
		}
	}
}
