package calc

import (
	"fmt"
	"testing"

	"colonnade/api"
)

// holdsFloats holds the four operations of all pairs against exact fractions.
func holdsFloats(t *testing.T, pairs [][2]uint64) {
	t.Helper()
	for _, op := range reckons[:4] {
		for from := 0; from < len(pairs); from += api.MaxRows {
			var first, second []api.Value
			part := pairs[from:min(len(pairs), from+api.MaxRows)]
			for _, p := range part {
				first, second = append(first, bitsOf(p[0])...), append(second, bitsOf(p[1])...)
			}
			l, d := numbers(t, api.Float64, first, second)
			got := doOf(op, l, d...)
			if got.e != api.OK || got.at != 0 {
				t.Fatalf("%d: %d at %d", op, got.e, got.at)
			}
			for i, p := range part {
				want := formOf(t, l[0], bitsOf(modelFloat(op, p[0], p[1])))
				if string(got.d.Buffers[1][8*i:8*i+8]) != string(want.Buffers[1]) {
					t.Fatalf("operation %d of %x and %x: %x, not %x", op, p[0], p[1], got.d.Buffers[1][8*i:8*i+8], want.Buffers[1])
				}
			}
		}
	}
}

// P17.3: zeros, infinities, what is no number, the least and the greatest ones, and halves of last bits, all by all.
func TestOddFloats(t *testing.T) {
	var pairs [][2]uint64
	for _, a := range odd {
		for _, b := range odd {
			pairs = append(pairs, [2]uint64{a, b}, [2]uint64{a, b ^ signBit})
		}
	}
	holdsFloats(t, pairs)
}

// P17.3: any bits; and numbers near each other, near the least ones and near the greatest one, where it is rounded in many ways.
func TestAnyFloats(t *testing.T) {
	c := newChance(3)
	var pairs [][2]uint64
	for range 3000 {
		a, b := c.Uint64(), c.Uint64()
		near := a&(0xfff<<52) | b&(1<<52-1)
		small := a & (1<<54 - 1)
		great := a&(1<<63|1<<52-1) | (0x7fe-uint64(c.Intn(56)))<<52
		half := b&(1<<63|1<<52-1) | uint64(0x3c0+c.Intn(0x80))<<52
		pairs = append(pairs, [2]uint64{a, b}, [2]uint64{a, near}, [2]uint64{small, near}, [2]uint64{small, half}, [2]uint64{great, half}, [2]uint64{great, great ^ uint64(c.Intn(4))})
	}
	holdsFloats(t, pairs)
}

// P17.3: the edges that the chapter names, by their bits.
func TestNamedFloats(t *testing.T) {
	const one, two, greatest = 0x3ff << 52, 0x400 << 52, infinity - 1
	for _, x := range []struct {
		op         int
		a, b, want uint64
	}{
		{api.OpSub, one, one, 0},
		{api.OpAdd, signBit, signBit, signBit},
		{api.OpAdd, signBit, 0, 0},
		{api.OpSub, signBit, 0, signBit},
		{api.OpSub, 0, 0, 0},
		{api.OpMul, signBit, one, signBit},
		{api.OpMul, signBit, signBit | one, 0},
		{api.OpDiv, 0, signBit | one, signBit},
		{api.OpDiv, one, signBit | infinity, signBit},
		{api.OpDiv, one, signBit, signBit | infinity},
		{api.OpDiv, signBit | one, signBit, infinity},
		{api.OpSub, infinity, infinity, nan},
		{api.OpAdd, infinity, signBit | infinity, nan},
		{api.OpMul, 0, signBit | infinity, nan},
		{api.OpDiv, infinity, signBit | infinity, nan},
		{api.OpDiv, 0, signBit, nan},
		{api.OpMul, signBit | nan, one, nan},
		{api.OpDiv, infinity + 1, infinity + 1, nan},
		{api.OpAdd, greatest, 0x7c9<<52 - 1, greatest},
		{api.OpAdd, greatest, 0x7c9 << 52, infinity},
		{api.OpAdd, one, 0x3ca << 52, one},
		{api.OpAdd, one + 1, 0x3ca << 52, one + 2},
		{api.OpAdd, one, 0x3ca<<52 + 1, one + 1},
		{api.OpDiv, 1, two, 0},
		{api.OpDiv, signBit | 1, two, signBit},
		{api.OpDiv, 3, two, 2},
		{api.OpMul, greatest, two, infinity},
		{api.OpMul, signBit | greatest, two, signBit | infinity},
	} {
		l, d := numbers(t, api.Float64, bitsOf(x.a), bitsOf(x.b))
		same(t, fmt.Sprintf("%d of %x and %x", x.op, x.a, x.b), doOf(x.op, l, d...), answer{d: formOf(t, l[0], bitsOf(x.want))})
	}
}

// P17.3: OpNeg turns the sign bit of all, of zeros and of what is no number too.
func TestNegOfFloats(t *testing.T) {
	var want []uint64
	for _, x := range odd {
		want = append(want, x^signBit)
	}
	l, d := numbers(t, api.Float64, bitsOf(odd...))
	same(t, "Neg", doOf(api.OpNeg, l, d...), answer{d: formOf(t, l[0], bitsOf(want...))})
	comesOut(t, api.OpNeg, []string{"float64?"}, []string{"null 0p0 nan8000000000001"}, "float64?", "null -0p0 -nan8000000000001")
}

// P17.2: floating-point numbers are never refused, and null comes out where one is null.
func TestNullsOfFloats(t *testing.T) {
	comesOut(t, api.OpDiv, []string{"float64?", "float64"}, []string{"null 1p0 -1p0 0p0", "0p0 0p0 0p0 0p0"}, "float64?", "null inf -inf nan8000000000000")
	comesOut(t, api.OpAdd, []string{"float64", "float64?"}, []string{"inf 3p-1", "null 1p0"}, "float64?", "null 5p-1")
}
