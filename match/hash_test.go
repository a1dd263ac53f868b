package match

import (
	"slices"
	"testing"

	"colonnade/api"
	"colonnade/value"
)

// steps are eight differences which, laid one behind the other on two hashes that were the same, byte by byte, cancel each other: so to each beginning there are two numbers of eight bytes behind which the hashes are the same again.
var steps = [8]int{131, -138, -113, 44, -58, 28, 54, -16}

// told goes on with bytes, as chapter 4 says.
func told(hash uint64, bytes ...byte) uint64 {
	for _, c := range bytes {
		hash = (hash ^ uint64(c)) * 1099511628211
	}
	return hash
}

// bytesOf are the bytes of a number, the lowest first.
func bytesOf(n int) []byte {
	var l []byte
	for i := range 8 {
		l = append(l, byte(n>>(8*i)))
	}
	return l
}

// head goes on with what stands ahead of the items of a list.
func head(hash uint64, items int) uint64 {
	return told(hash, slices.Concat(make([]byte, 17), bytesOf(items))...)
}

// pair is two numbers in the making, and the hashes behind their bytes.
type pair struct {
	a, b int64
	x, y uint64
}

// further tells the pair with all steps from one on. A step leaves open which bytes the hashes' lowest ones become, but for their difference: the first ones that lead to the end are taken.
func (p pair) further(i int) (pair, bool) {
	if i == len(steps) {
		return p, p.x == p.y
	}
	apart := steps[i] + int(byte(p.x)) - int(byte(p.y))
	for u := max(0, apart); u <= min(255, 255+apart); u++ {
		c, d := byte(p.x)^byte(u), byte(p.y)^byte(u-apart)
		next := pair{p.a | int64(c)<<(8*i), p.b | int64(d)<<(8*i), told(p.x, c), told(p.y, d)}
		if end, ok := next.further(i + 1); ok {
			return end, true
		}
	}
	return pair{}, false
}

// twins tells two numbers behind whose values a hash is the same, and that hash.
func twins(hash uint64) (a, b int64, after uint64) {
	hash = told(hash, 0)
	p, ok := pair{x: hash, y: hash}.further(0)
	if !ok || p.a == p.b {
		panic("no twins")
	}
	return p.a, p.b, told(p.x, make([]byte, 16)...)
}

const begin = 14695981039346656037

// The twins of these tests have one hash.
func TestTwins(t *testing.T) {
	if a, b, _ := twins(begin); a == b || value.Hash(api.Value{Num: a}) != value.Hash(api.Value{Num: b}) {
		t.Errorf("%d, %d", a, b)
	}
	a, b, next := twins(head(begin, 2))
	c, d, _ := twins(next)
	l := []api.Value{list(a, c), list(a, d), list(b, c), list(b, d)}
	for _, v := range l {
		if a == b || c == d || value.Hash(v) != value.Hash(l[0]) {
			t.Errorf("%v: %x, not %x", v, value.Hash(v), value.Hash(l[0]))
		}
	}
}

// P21.1: unlike keys of one hash, by their values themselves, and by lists of these, don't meet.
func TestSameHash(t *testing.T) {
	for _, hash := range []uint64{begin, head(begin, 1)} {
		x, y, _ := twins(hash)
		l, r := numbers(t, "a int64", y, x, x, 7, y), numbers(t, "b int64", x, y, 8, x)
		for join, want := range map[int]string{
			api.JoinInner: "0,1 1,0 1,3 2,0 2,3 4,1", api.JoinLeft: "0,1 1,0 1,3 2,0 2,3 3,-1 4,1", api.JoinFull: "0,1 1,0 1,3 2,0 2,3 3,-1 4,1 -1,2", api.JoinSemi: "0,-1 1,-1 2,-1 4,-1", api.JoinAnti: "3,-1",
		} {
			holdsPairs(t, "one hash", onFirst(join, l, r), pairsIn(t, want), api.OK)
		}
		l, r = numbers(t, "a int64", x), numbers(t, "b int64", y)
		for join, want := range map[int]string{api.JoinInner: "", api.JoinLeft: "0,-1", api.JoinFull: "0,-1 -1,0", api.JoinSemi: "", api.JoinAnti: "0,-1"} {
			holdsPairs(t, "one hash", onFirst(join, l, r), pairsIn(t, want), api.OK)
		}
	}
}

// P21.1: likewise many of them, in rows of several keys.
func TestManyOfOneHash(t *testing.T) {
	const columns = 8
	var pairs [columns][2]int64
	hash := head(begin, columns)
	for k := range pairs {
		pairs[k][0], pairs[k][1], hash = twins(hash)
	}
	s := schemaOf(t, "a int64, b int64, c int64, d int64, e int64, f int64, g int64, h int64")
	var rows [][]api.Value
	for i := range 512 {
		var row []api.Value
		for k := range columns {
			row = append(row, api.Value{Num: pairs[k][i*37>>k&1]})
		}
		rows = append(rows, row)
	}
	if value.Hash(api.Value{List: rows[0]}) != value.Hash(api.Value{List: rows[5]}) {
		t.Fatal("two hashes")
	}
	c := newChance(51)
	keys := []int{0, 1, 2, 3, 4, 5, 6, 7}
	var want [][2]int
	for i := range 256 {
		want = append(want, [2]int{i, i}, [2]int{i, i + 256})
	}
	a := ask{api.JoinInner, side{s, c.batch(t, s, rows[:256])}, side{s, c.batch(t, s, rows)}, keys, keys}
	holdsPairs(t, "one hash", a, want, api.OK)
	slices.Reverse(rows)
	a.join, a.r.b = api.JoinFull, c.batch(t, s, rows[:300])
	want, e := a.modelPairs(t)
	holdsPairs(t, "one hash", a, want, e)
	if e != api.OK || len(want) != 300 {
		t.Errorf("%d pairs, %d", len(want), e)
	}
}

// P21.1: heavy keys that are all the same, or nearly, in good time.
func TestHeavyKeys(t *testing.T) {
	f, g := field(t, "k runs(v list(i int8))"), field(t, "q dict(3, int8, v list(i int8))")
	long := make([]int64, 60)
	same := slices.Repeat([]api.Value{list(long...)}, api.MaxRows)
	other := slices.Clone(same)
	long[59] = 1
	for i := range other {
		if i%2 == 1 {
			other[i] = list(long...)
		}
	}
	columnOf := func(f api.Field, l []api.Value) side {
		return side{api.Schema{Fields: []api.Field{f}}, api.Batch{Rows: len(l), Columns: []api.Data{formOf(t, f, l)}}}
	}
	l, r := columnOf(g, other), columnOf(f, same)
	for join, n := range map[int]int{api.JoinInner: -1, api.JoinLeft: -1, api.JoinFull: -1, api.JoinSemi: 2048, api.JoinAnti: 2048} {
		p, e := onFirst(join, l, r).pairs()
		if n < 0 && e != api.ErrRows || n >= 0 && (e != api.OK || len(p) != n) {
			t.Errorf("join %d: %d pairs, %d", join, len(p), e)
		}
	}
}
