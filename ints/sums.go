package ints

import "cheesepress/api"

// Plus returns a and b together.
func Plus(a, b int) (int, api.Errno) {
	return total(a, b)
}

// Times returns a times b.
func Times(a, b int) (int, api.Errno) {
	if !isCount(a) || !isCount(b) {
		return 0, api.ErrRange
	}
	// The product itself could be greater than an int, so the bound is divided instead.
	if a > 0 && b > api.MaxCount/a {
		return 0, api.ErrRange
	}
	return a * b, api.OK
}

// Sum returns all numbers of the list together.
func Sum(l []int) (int, api.Errno) {
	return total(l...)
}

// total adds up numbers. It asks for the room that is left before it adds, so no sum overflows.
func total(numbers ...int) (int, api.Errno) {
	sum := 0
	for _, n := range numbers {
		if n < 0 || n > api.MaxCount-sum {
			return 0, api.ErrRange
		}
		sum += n
	}
	return sum, api.OK
}

func isCount(n int) bool {
	return n >= 0 && n <= api.MaxCount
}
