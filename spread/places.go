package spread

import "iter"

// places goes through the cells in the order in which they are given to symbols: first from the last one downwards, as many as there are rare symbols (those with less than one), and then step by step through the others.
func places(size, rare int) iter.Seq[int] {
	return func(yield func(place int) bool) {
		for i := range rare {
			if !yield(size - 1 - i) {
				return
			}
		}
		free := size - rare
		place := 0
		for range free {
			if !yield(place) {
				return
			}
			place = after(place, size, free)
		}
	}
}

// after returns the place behind one, of a size, that is below free. There is such a place, as the steps lead through all of them.
func after(place, size, free int) int {
	for {
		place = (place + stepOf(size)) & (size - 1)
		if place < free {
			return place
		}
	}
}

func stepOf(size int) int {
	return size>>1 + size>>3 + 3
}

// queue returns the symbols in the order in which they get cells, each as often as it gets one, and how many of them are rare. These are the first ones.
func queue(probs []int) (symbols []int, rare int) {
	for symbol, prob := range probs {
		if prob == less {
			symbols = append(symbols, symbol)
		}
	}
	rare = len(symbols)
	for symbol, prob := range probs {
		// A prob below 0 is no turn here.
		for range prob {
			symbols = append(symbols, symbol)
		}
	}
	return symbols, rare
}

// numbering returns a function that is shown the symbols of cells one after the other, and returns the numbers of these cells.
func numbering(probs []int) func(symbol int) int {
	met := map[int]int{}
	return func(symbol int) int {
		number := worth(probs[symbol]) + met[symbol]
		met[symbol]++
		return number
	}
}

// worth returns how many cells a symbol with a probability gets.
func worth(prob int) int {
	if prob == less {
		return 1
	}
	return prob
}
