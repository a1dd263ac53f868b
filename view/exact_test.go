package view

import (
	"math/big"
	"testing"
)

// exact cuts an unbounded number to what Sum and Times tell of it.
func exact(x *big.Int, below bool) (int, bool) {
	if below || x.Cmp(big.NewInt(most)) > 0 {
		return 0, false
	}
	return int(x.Int64()), true
}

func checkSum(t *testing.T, l ...int) {
	t.Helper()
	x, below := new(big.Int), false
	for _, n := range l {
		x.Add(x, big.NewInt(int64(n)))
		below = below || n < 0
	}
	want, ok := exact(x, below)
	if got, k := Sum(l...); got != want || k != ok {
		t.Errorf("Sum(%v): %d, %v, want %d, %v", l, got, k, want, ok)
	}
}

// P1.1: Sum and Times by unbounded numbers, and the chapter's example 6.
func TestExact(t *testing.T) {
	l := append(edges(2), 1<<62-1, 1<<31-1, 3037000499, 3037000500)
	checkSum(t)
	for _, a := range l {
		checkSum(t, a)
		for _, b := range l {
			checkSum(t, a, b)
			for _, c := range l {
				checkSum(t, a, b, c)
			}
			x := new(big.Int).Mul(big.NewInt(int64(a)), big.NewInt(int64(b)))
			want, ok := exact(x, a < 0 || b < 0)
			if got, k := Times(a, b); got != want || k != ok {
				t.Errorf("Times(%d, %d): %d, %v, want %d, %v", a, b, got, k, want, ok)
			}
		}
	}
	if n, ok := Sum(1<<62, 1<<62, -1); n != 0 || ok {
		t.Errorf("Sum that is too great, and one below 0: %d, %v", n, ok)
	}
	if n, ok := Times(1<<31, 1<<31); n != 1<<62 || !ok {
		t.Errorf("Times(2^31, 2^31): %d, %v", n, ok)
	}
}
