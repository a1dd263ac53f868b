package view

import "math"

// Sum tells the sum of numbers, if there is one.
func Sum(l ...int) (int, bool) {
	sum := 0
	for _, n := range l {
		if n < 0 || n > math.MaxInt-sum {
			return 0, false
		}
		sum += n
	}
	return sum, true
}

// Times tells the product of two numbers, if there is one.
func Times(a, b int) (int, bool) {
	if a < 0 || b < 0 || b > 0 && a > math.MaxInt/b {
		return 0, false
	}
	return a * b, true
}
