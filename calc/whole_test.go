package calc

import (
	"fmt"
	"testing"

	"colonnade/api"
)

// numbers is two fields of a kind, and an array of each column.
func numbers(t testing.TB, k int, columns ...[]api.Value) ([]api.Field, []api.Data) {
	t.Helper()
	var l []api.Field
	var d []api.Data
	for i, c := range columns {
		l = append(l, api.Field{Name: string(rune('a' + i)), Type: api.Type{Kind: k}})
		d = append(d, formOf(t, l[i], c))
	}
	return l, d
}

// holdsPairs holds an operation of all pairs against the model: those that can be done at once, the others one by one, behind one that can be done.
func holdsPairs(t *testing.T, op, k int, pairs [][2]int64) {
	t.Helper()
	var first, second, want []api.Value
	typ := api.Type{Kind: k}
	for i, p := range pairs {
		v := []api.Value{num(p[0]), num(p[1])}
		w, e := modelRow(op, typ, v)
		if e != api.OK {
			l, d := numbers(t, k, []api.Value{num(1), v[0]}, []api.Value{num(1), v[1]})
			same(t, fmt.Sprint(op, k, p), doOf(op, l, d...), answer{e: e, at: 1})
		} else {
			first, second, want = append(first, v[0]), append(second, v[1]), append(want, w)
		}
		if len(first) == api.MaxRows || i == len(pairs)-1 {
			l, d := numbers(t, k, first, second)
			same(t, fmt.Sprint(op, k), doOf(op, l, d...), answer{d: formOf(t, l[0], want)})
			first, second, want = nil, nil, nil
		}
	}
}

// P17.2, P17.3: all pairs of numbers of one byte.
func TestAllPairsOfBytes(t *testing.T) {
	for _, op := range reckons {
		for _, x := range []struct {
			k     int
			least int64
		}{{api.Int8, -128}, {api.Uint8, 0}} {
			var pairs [][2]int64
			for a := range int64(256) {
				for b := range int64(256) {
					pairs = append(pairs, [2]int64{a + x.least, b + x.least})
				}
			}
			holdsPairs(t, op, x.k, pairs)
		}
	}
}

// P17.2, P17.3: all pairs of numbers about which something changes, of all kinds, and any others.
func TestPairsOfAllKinds(t *testing.T) {
	c := newChance(2)
	for _, op := range reckons {
		for _, k := range wholes {
			var few []int64
			for _, n := range edges {
				x := modelWhole(api.Int64, n)
				if k == api.Uint64 {
					x = modelWhole(k, n)
				}
				if m, ok := modelNum(k, x); ok {
					few = append(few, m)
				}
			}
			var pairs [][2]int64
			for _, a := range few {
				for _, b := range few {
					pairs = append(pairs, [2]int64{a, b})
				}
			}
			for range 2000 {
				pairs = append(pairs, [2]int64{c.number(k), c.number(k)})
			}
			holdsPairs(t, op, k, pairs)
		}
	}
}

// P17.3: 0 less each number; of the least one it is no number of the kind.
func TestNeg(t *testing.T) {
	for _, k := range []int{api.Int8, api.Int16, api.Int32, api.Int64} {
		least := int64(-1) << (8<<(k-api.Int8) - 1)
		l, d := numbers(t, k, []api.Value{num(0), num(1), num(-1), num(-(least + 1)), num(least + 1)})
		same(t, "Neg", doOf(api.OpNeg, l, d...), answer{d: formOf(t, l[0], []api.Value{num(0), num(-1), num(1), num(least + 1), num(-(least + 1))})})
		l, d = numbers(t, k, []api.Value{num(5), num(-7), num(least), num(least)})
		same(t, "Neg of the least", doOf(api.OpNeg, l, d...), answer{e: api.ErrOverflow, at: 2})
	}
	var all, want []api.Value
	for n := int64(-127); n < 128; n++ {
		all, want = append(all, num(n)), append(want, num(-n))
	}
	l, d := numbers(t, api.Int8, all)
	same(t, "Neg of all", doOf(api.OpNeg, l, d...), answer{d: formOf(t, l[0], want)})
}

// P17.2: the first row at which it can't be done decides, whichever error that is; nulls are no rows at which it can't.
func TestFirstRowDecides(t *testing.T) {
	l := twice("int8?")
	refused(t, api.OpDiv, l, []string{"1 1 -128", "1 0 -1"}, api.ErrZero, 1)
	refused(t, api.OpDiv, l, []string{"1 -128 1", "1 -1 0"}, api.ErrOverflow, 1)
	refused(t, api.OpDiv, l, []string{"-128 0 1", "null 0 -1"}, api.ErrZero, 1)
	refused(t, api.OpRem, l, []string{"null -128 -128 0", "0 -1 1 0"}, api.ErrZero, 3)
	refused(t, api.OpAdd, l, []string{"127 127 127 1", "0 null 1 1"}, api.ErrOverflow, 2)
	comesOut(t, api.OpDiv, l, []string{"null null 5", "0 null null"}, "int8?", "null null null")
	comesOut(t, api.OpRem, l, []string{"null -7", "0 -2"}, "int8?", "null -1")
	comesOut(t, api.OpMul, l, []string{"null 127", "127 null"}, "int8?", "null null")
	comesOut(t, api.OpNeg, l[:1], []string{"null 3"}, "int8?", "null -3")
	comesOut(t, api.OpDiv, twice("uint64"), []string{"18446744073709551615 18446744073709551615", "2 18446744073709551615"}, "uint64", "9223372036854775807 1")
	comesOut(t, api.OpRem, twice("uint64"), []string{"18446744073709551615", "10"}, "uint64", "5")
	refused(t, api.OpDiv, twice("uint64"), []string{"0 0", "1 0"}, api.ErrZero, 1)
}

// P17.2: the last row counts as well as the first one.
func TestLastRow(t *testing.T) {
	ones := make([]api.Value, api.MaxRows)
	for i := range ones {
		ones[i] = num(1)
	}
	l, d := numbers(t, api.Int16, ones, ones)
	twos := make([]api.Value, api.MaxRows)
	for i := range twos {
		twos[i] = num(2)
	}
	same(t, "Add", doOf(api.OpAdd, l, d...), answer{d: formOf(t, l[0], twos)})
	ones[api.MaxRows-1] = num(1<<15 - 1)
	l, d = numbers(t, api.Int16, ones, ones)
	same(t, "Add", doOf(api.OpAdd, l, d...), answer{e: api.ErrOverflow, at: api.MaxRows - 1})
}
