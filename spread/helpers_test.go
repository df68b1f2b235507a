package spread_test

import (
	"math"
	"math/bits"
	"testing"

	"cheesepress/api"
	"cheesepress/samples"
	"cheesepress/spread"
)

// modelOf gives the cells away one by one, as the chapter says it, and keeps who has got each of them.
func modelOf(d api.Dist) []int {
	size := 1 << d.Log
	owner := map[int]int{}
	for symbol, prob := range d.Probs {
		if prob == -1 {
			owner[size-1-len(owner)] = symbol
		}
	}
	place := 0
	for symbol, prob := range d.Probs {
		for ; prob > 0; prob-- {
			owner[place] = symbol
			for moved := false; !moved || rare(d, owner, place); moved = true {
				place = (place + size/2 + size/8 + 3) % size
			}
		}
	}
	cells := make([]int, size)
	for cell := range cells {
		cells[cell] = owner[cell]
	}
	return cells
}

// rare tells whether a cell was given to a symbol with the probability -1. Where there are no other cells the model is not asked.
func rare(d api.Dist, owner map[int]int, cell int) bool {
	symbol, given := owner[cell]
	return given && d.Probs[symbol] == -1
}

// points are how many cells a symbol gets.
func points(prob int) int {
	if prob == -1 {
		return 1
	}
	return prob
}

// modelNumbers counts, for each cell, how many of its symbol's come before it.
func modelNumbers(d api.Dist) []int {
	cells := modelOf(d)
	numbers := make([]int, len(cells))
	before := make([]int, len(d.Probs))
	for cell, symbol := range cells {
		numbers[cell] = points(d.Probs[symbol]) + before[symbol]
		before[symbol]++
	}
	return numbers
}

// modelBits are the Log less the highest bits of the numbers.
func modelBits(d api.Dist) []int {
	list := modelNumbers(d)
	for cell, number := range list {
		list[cell] = d.Log - (bits.Len(uint(number)) - 1)
	}
	return list
}

// outside are numbers that no symbol of n has.
func outside(n int) []int {
	return []int{math.MinInt, -256, -2, -1, n, n + 1, 255 + n, math.MaxInt}
}

// of calls Of where that must succeed.
func of(t *testing.T, d api.Dist) []int {
	t.Helper()
	cells, err := spread.Of(d)
	if err != api.OK {
		t.Fatalf("Of(%v): %v", d, err)
	}
	return cells
}

// numbersAndBits calls Numbers and Bits where they must succeed.
func numbersAndBits(t *testing.T, d api.Dist) (numbers, bits []int) {
	t.Helper()
	numbers, err := spread.Numbers(d)
	if err != api.OK {
		t.Fatalf("Numbers(%v): %v", d, err)
	}
	bits, err = spread.Bits(d)
	if err != api.OK {
		t.Fatalf("Bits(%v): %v", d, err)
	}
	return numbers, bits
}

// chapter are d and e of the chapter's examples.
func chapter() (d, e api.Dist) {
	return samples.Of(5, 16, 15, -1), samples.Of(5, 31, -1)
}
