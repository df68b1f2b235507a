// Package ints is layer 1: numbers, their bits, their bytes, and sums and products with bounds.
package ints

import "cheesepress/api"

const (
	intBits  = 63 // how many bits a number of type int has beside its sign
	longBits = 64 // how many bits a uint64 has
)

// High returns the highest bit of n, -1 for numbers below 1.
func High(n int) int {
	for h := range intBits {
		if n>>h < 1 {
			return h - 1
		}
	}
	return intBits - 1
}

// Bits returns how many bits n has, 0 for numbers below 1.
func Bits(n int) int {
	return High(n) + 1
}

// Up returns the least h from 0 on for which 2^h is at least n.
func Up(n int) int {
	// The least number of type int has none before it, so all below 1 count as 1.
	return Bits(max(n, 1) - 1)
}

// Low returns the lowest bits of n.
func Low(n uint64, bits int) (uint64, api.Errno) {
	if bits < 0 || bits > longBits {
		return 0, api.ErrRange
	}
	// A shift by 64 gives 0, and 0 less 1 has all bits.
	return n & (1<<bits - 1), api.OK
}
