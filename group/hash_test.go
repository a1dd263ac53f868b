package group

import (
	"slices"
	"testing"

	"colonnade/api"
	"colonnade/value"
)

// steps are eight differences which, laid one behind the other on two hashes that were the same, byte by byte, cancel each other: so to each beginning there are two numbers of eight bytes behind which the hashes are the same again.
var steps = [8]int{131, -138, -113, 44, -58, 28, 54, -16}

// told goes on with bytes, as chapter 4 says.
func told(hash uint64, bytes ...byte) uint64 {
	for _, c := range bytes {
		hash = (hash ^ uint64(c)) * 1099511628211
	}
	return hash
}

// bytesOf are the bytes of a number, the lowest first.
func bytesOf(n int) []byte {
	var l []byte
	for i := range 8 {
		l = append(l, byte(n>>(8*i)))
	}
	return l
}

// head goes on with what stands ahead of the items of a list.
func head(hash uint64, items int) uint64 {
	return told(hash, slices.Concat(make([]byte, 17), bytesOf(items))...)
}

// pair is two numbers in the making, and the hashes behind their bytes.
type pair struct {
	a, b int64
	x, y uint64
}

// further tells the pair with all steps from one on. A step leaves open which bytes the hashes' lowest ones become, but for their difference: the first ones that lead to the end are taken.
func (p pair) further(i int) (pair, bool) {
	if i == len(steps) {
		return p, p.x == p.y
	}
	apart := steps[i] + int(byte(p.x)) - int(byte(p.y))
	for u := max(0, apart); u <= min(255, 255+apart); u++ {
		c, d := byte(p.x)^byte(u), byte(p.y)^byte(u-apart)
		next := pair{p.a | int64(c)<<(8*i), p.b | int64(d)<<(8*i), told(p.x, c), told(p.y, d)}
		if end, ok := next.further(i + 1); ok {
			return end, true
		}
	}
	return pair{}, false
}

// twins tells two numbers behind whose values a hash is the same, and that hash.
func twins(hash uint64) (a, b int64, after uint64) {
	hash = told(hash, 0)
	p, ok := pair{x: hash, y: hash}.further(0)
	if !ok || p.a == p.b {
		panic("no twins")
	}
	return p.a, p.b, told(p.x, make([]byte, 16)...)
}

const begin = 14695981039346656037

// list is a value of numbers.
func list(l ...int64) api.Value {
	var v api.Value
	for _, n := range l {
		v.List = append(v.List, api.Value{Num: n})
	}
	return v
}

// The twins of these tests have one hash.
func TestTwins(t *testing.T) {
	if a, b, _ := twins(begin); a == b || value.Hash(api.Value{Num: a}) != value.Hash(api.Value{Num: b}) {
		t.Errorf("%d, %d", a, b)
	}
	a, b, next := twins(head(begin, 2))
	c, d, _ := twins(next)
	l := []api.Value{list(a, c), list(a, d), list(b, c), list(b, d)}
	for _, v := range l {
		if a == b || c == d || value.Hash(v) != value.Hash(l[0]) {
			t.Errorf("%v: %x, not %x", v, value.Hash(v), value.Hash(l[0]))
		}
	}
}

// P20.1: unlike rows of one hash, by their values themselves, and by lists of these, are groups of their own.
func TestSameHash(t *testing.T) {
	s := schemaOf(t, "a int64, n int8")
	for _, hash := range []uint64{begin, head(begin, 1)} {
		x, y, _ := twins(hash)
		var b api.Batch
		b.Rows = 6
		b.Columns = append(b.Columns, formOf(t, s.Fields[0], list(y, x, x, 7, y, x).List), formOf(t, s.Fields[1], list(1, 2, 3, 4, 5, 6).List))
		of, firsts, e := Numbers(s, b, []int{0})
		if e != api.OK || !slices.Equal(of, []int{0, 1, 1, 2, 0, 1}) || !slices.Equal(firsts, []int{0, 1, 3}) {
			t.Errorf("%v, %v, %d", of, firsts, e)
		}
		out, c, e := Group(s, b, []int{0}, []api.Agg{{Op: api.AggSum, Column: 1, Name: "n"}})
		if e != api.OK || textOf(t, out.Fields[1], c.Columns[1]) != "6 11 4" {
			t.Errorf("%+v, %d", c, e)
		}
		f, d, e := Dict(s.Fields[0], b.Columns[0], 0, api.Int8)
		if e != api.OK || !slices.Equal(d.Buffers[1], []byte{0, 1, 1, 2, 0, 1}) || len(valuesIn(t, f.Type.Fields[0], d.Dict[0])) != 3 {
			t.Errorf("%+v, %d", d, e)
		}
	}
}

// P20.1: likewise many of them: rows of several columns, and structs.
func TestManyOfOneHash(t *testing.T) {
	const columns = 8
	var pairs [columns][2]int64
	hash := head(begin, columns)
	for k := range pairs {
		pairs[k][0], pairs[k][1], hash = twins(hash)
	}
	s := schemaOf(t, "a int64, b int64, c int64, d int64, e int64, f int64, g int64, h int64")
	var rows [][]api.Value
	for i := range 2 * 256 {
		var row []api.Value
		for k := range columns {
			row = append(row, api.Value{Num: pairs[k][i*37>>k&1]})
		}
		rows = append(rows, row)
	}
	if value.Hash(api.Value{List: rows[0]}) != value.Hash(api.Value{List: rows[5]}) {
		t.Fatal("two hashes")
	}
	var want []int
	for i := range 2 * 256 {
		want = append(want, i%256)
	}
	of, firsts, e := Numbers(s, newChance(1).batch(t, s, rows), []int{0, 1, 2, 3, 4, 5, 6, 7})
	if e != api.OK || !slices.Equal(of, want) || !slices.Equal(firsts, want[:256]) {
		t.Errorf("%v, %v, %d", of, firsts, e)
	}

	structs := schemaOf(t, "z struct(a int64, b int64, c int64, d int64, e int64, f int64, g int64, h int64)")
	hash = head(head(begin, 1), columns)
	for k := range pairs {
		pairs[k][0], pairs[k][1], hash = twins(hash)
	}
	for i := range rows {
		v := api.Value{}
		for k := range columns {
			v.List = append(v.List, api.Value{Num: pairs[k][i*37>>k&1]})
		}
		rows[i] = []api.Value{v}
	}
	if value.Hash(api.Value{List: rows[0]}) != value.Hash(api.Value{List: rows[5]}) {
		t.Fatal("two hashes")
	}
	of, firsts, e = Numbers(structs, newChance(2).batch(t, structs, rows), []int{0})
	if e != api.OK || !slices.Equal(of, want) || !slices.Equal(firsts, want[:256]) {
		t.Errorf("%v, %v, %d", of, firsts, e)
	}
}
