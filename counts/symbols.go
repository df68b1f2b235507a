package counts

import (
	"iter"

	"cheesepress/api"
)

// occurring goes through the symbols that occur, with their counts.
func occurring(counts []int) iter.Seq2[int, int] {
	return func(yield func(symbol, count int) bool) {
		for symbol, count := range counts {
			if count > 0 && !yield(symbol, count) {
				return
			}
		}
	}
}

// contest returns a function that is shown symbols with their ranks, which are from 0 on. It returns the first one of those with the greatest rank so far.
func contest() func(symbol, rank int) int {
	winner, greatest := 0, -1
	return func(symbol, rank int) int {
		if rank > greatest {
			winner, greatest = symbol, rank
		}
		return winner
	}
}

// best returns the first of the symbols that occur which has the greatest rank.
func best(counts []int, rank func(symbol, count int) int) (int, api.Errno) {
	if err := Check(counts); err != api.OK {
		return 0, err
	}
	symbol, err := 0, api.ErrMissing
	show := contest()
	for next, count := range occurring(counts) {
		symbol, err = show(next, rank(next, count)), api.OK
	}
	return symbol, err
}

// Last returns the greatest symbol that occurs.
func Last(counts []int) (int, api.Errno) {
	return best(counts, func(symbol, count int) int { return symbol })
}

// Greatest returns the symbol with the greatest count, the least one of these, and its count.
func Greatest(counts []int) (symbol, count int, err api.Errno) {
	symbol, err = best(counts, func(symbol, count int) int { return count })
	if err != api.OK {
		return 0, 0, err
	}
	return symbol, counts[symbol], api.OK
}

// Only tells whether just one symbol occurs, and which.
func Only(counts []int) (symbol int, only bool, err api.Errno) {
	distinct, err := Distinct(counts)
	if distinct != 1 {
		return 0, false, err
	}
	symbol, err = Last(counts)
	return symbol, true, err
}

// Covers tells whether has is true for each symbol that occurs.
func Covers(counts []int, has []bool) (bool, api.Errno) {
	if err := Check(counts); err != api.OK {
		return false, err
	}
	for symbol := range occurring(counts) {
		if symbol >= len(has) || !has[symbol] {
			return false, api.OK
		}
	}
	return true, api.OK
}
