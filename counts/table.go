package counts

import (
	"strings"

	"cheesepress/api"
)

// table has a count for each symbol that there can be.
type table [api.MaxSymbols]int

// first returns the first n counts. There is no room behind them, so what is appended to them is not written into the table.
func (t *table) first(n int) []int {
	return t[:n:n]
}

// Bytes returns the counts of the bytes of s.
func Bytes(s string) ([]int, api.Errno) {
	if len(s) > api.MaxInput {
		return nil, api.ErrLong
	}
	var found table
	for i := range len(s) {
		found[s[i]]++
	}
	return found.first(api.MaxSymbols), api.OK
}

// Symbols returns the counts of the symbols of a list, from 0 to most.
func Symbols(l []int, most int) ([]int, api.Errno) {
	if most < 0 || most >= api.MaxSymbols {
		return nil, api.ErrRange
	}
	if len(l) > api.MaxInput {
		return nil, api.ErrLong
	}
	var found table
	for _, symbol := range l {
		if symbol < 0 || symbol > most {
			return nil, api.ErrRange
		}
		found[symbol]++
	}
	return found.first(most + 1), api.OK
}

// Same tells whether s has bytes, which are all equal.
func Same(s string) bool {
	return len(s) > 0 && strings.Count(s, s[:1]) == len(s)
}
