package encode

import (
	"slices"

	"cheesepress/api"
)

// size returns how many cells a table should have.
func size(t api.EncodeTable) int {
	return 1 << uint(t.Log)
}

// collect returns, for each symbol below n, the places at which it stands in a list, ascending.
func collect[T ~int](list []T, n int) [][]int {
	var many [api.MaxSymbols]int
	for _, symbol := range list {
		many[symbol]++
	}
	room := make([]int, len(list))
	var places [api.MaxSymbols][]int
	for symbol := range n {
		// The room of a symbol ends where that of the next one begins.
		places[symbol] = room[:0:many[symbol]]
		room = room[many[symbol]:]
	}
	for place, symbol := range list {
		places[symbol] = append(places[symbol], place)
	}
	return places[:n:n]
}

// fill tells whether lists have each of so many cells once, and each of them is ascending.
func fill(lists [][]int, size int) bool {
	var taken [1 << api.MaxLog]bool
	left := size
	for _, cells := range lists {
		before := -1
		for _, cell := range cells {
			if cell <= before || cell >= size || taken[cell] {
				return false
			}
			taken[cell], before = true, cell
			left--
		}
	}
	return left == 0
}

// run goes from a state through a list, from its last symbol to its first one. It returns where that leads, and how many bits the steps have together.
func run(step func(state, symbol int) (next, bits, value int), state int, l []int) (last, sum int) {
	for _, symbol := range slices.Backward(l) {
		next, bits, _ := step(state, symbol)
		state = next
		sum += bits
	}
	return state, sum
}
