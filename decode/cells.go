package decode

import (
	"slices"

	"cheesepress/api"
	"cheesepress/ints"
)

// room returns so many cells, with no room behind them.
func room(size int) []api.Cell {
	if size > common {
		return make([]api.Cell, size)
	}
	var cells [common]api.Cell
	return cells[:size:size]
}

// firstNumbers returns the number of the first cell of each symbol that has cells.
func firstNumbers(probs []int) map[int]int {
	numbers := map[int]int{}
	for symbol, prob := range probs {
		switch prob {
		case 0:
		case less:
			numbers[symbol] = 1
		default:
			numbers[symbol] = prob
		}
	}
	return numbers
}

// cellOf returns the cell of a symbol with a number, in a table with a logarithm.
func cellOf(symbol, number, log int) api.Cell {
	bits := log - ints.High(number)
	return api.Cell{Symbol: symbol, Bits: bits, Base: number<<bits - 1<<log}
}

// twinOf returns the table to which t is equal if it is right. It has as many cells.
func twinOf(t []api.Cell) ([]api.Cell, api.Errno) {
	if len(t) == 1 {
		return One(t[0].Symbol)
	}
	d, err := source(t)
	if err != api.OK {
		return nil, err
	}
	return Of(d)
}

// source returns a distribution of which t is the decode table, if there is one.
func source(t []api.Cell) (api.Dist, api.Errno) {
	var probs [api.MaxSymbols]int
	last := 0
	for _, cell := range t {
		if !isSymbol(cell.Symbol) {
			return api.Dist{}, api.ErrRange
		}
		probs[cell.Symbol]++
		last = max(last, cell.Symbol)
	}
	markRare(probs[:], t)
	return api.Dist{Log: ints.High(len(t)), Probs: probs[:last+1]}, api.OK
}

// markRare gives less than one to all symbols that may have it: those with one cell, at the end of the table, the least one the very last. A table that is right with fewer of them is right with all of them, too: the other symbols keep their places, and the order of these.
func markRare(probs []int, t []api.Cell) {
	before := -1
marking:
	for _, cell := range slices.Backward(t) {
		switch symbol := cell.Symbol; {
		case probs[symbol] == 1 && symbol > before:
			probs[symbol], before = less, symbol
		default:
			break marking
		}
	}
}
