package decode_test

import (
	"math"
	"math/bits"
	"slices"
	"testing"

	"cheesepress/api"
	"cheesepress/decode"
	"cheesepress/samples"
	"cheesepress/spread"
)

// modelOf is the decode table that the chapter describes, symbol by symbol.
func modelOf(d api.Dist) []api.Cell {
	t := make([]api.Cell, 1<<d.Log)
	for symbol, prob := range d.Probs {
		cells, _ := spread.Cells(d, symbol)
		for i, state := range cells {
			x := max(prob, 1) + i
			n := d.Log - (bits.Len(uint(x)) - 1)
			t[state] = api.Cell{Symbol: symbol, Bits: n, Base: x<<n - 1<<d.Log}
		}
	}
	return t
}

// modelRight tells whether a table is right: it tries each distribution with the symbols of its cells, in which those with one cell have 1 or -1.
func modelRight(t []api.Cell) bool {
	for _, cell := range t {
		if cell.Symbol < 0 || cell.Symbol > 255 {
			return false
		}
	}
	if len(t) == 1 {
		return t[0] == api.Cell{Symbol: t[0].Symbol}
	}
	log := bits.Len(uint(len(t))) - 1
	if log < 5 || log > 12 || len(t) != 1<<log {
		return false
	}
	var probs []int
	for _, cell := range t {
		for len(probs) <= cell.Symbol {
			probs = append(probs, 0)
		}
		probs[cell.Symbol]++
	}
	// Symbols with -1 have the last cells. So with each further one there is one distribution more to be tried.
	for state := len(t) - 1; ; state-- {
		if slices.Equal(t, modelOf(samples.Of(log, probs...))) {
			return true
		}
		if state < 0 || probs[t[state].Symbol] != 1 {
			return false
		}
		probs[t[state].Symbol] = -1
	}
}

// of calls Of where that must succeed.
func of(t *testing.T, d api.Dist) []api.Cell {
	t.Helper()
	table, err := decode.Of(d)
	if err != api.OK {
		t.Fatalf("Of(%v): %v", d, err)
	}
	return table
}

// one calls One where that must succeed.
func one(t *testing.T, symbol int) []api.Cell {
	t.Helper()
	table, err := decode.One(symbol)
	if err != api.OK {
		t.Fatalf("One(%d): %v", symbol, err)
	}
	return table
}

// next calls Next where that must succeed.
func next(t *testing.T, table []api.Cell, state, v int) int {
	t.Helper()
	to, err := decode.Next(table, state, v)
	if err != api.OK {
		t.Fatalf("Next(%v, %d, %d): %v", table, state, v, err)
	}
	return to
}

// small are the distributions that are right with a Log of at most 6.
func small() []api.Dist {
	return slices.DeleteFunc(samples.Right(), func(d api.Dist) bool { return d.Log > 6 })
}

// signs are all distributions of Log 5 with these symbols, each of which has 1 or -1, but for one that has the rest.
func signs(symbols int) []api.Dist {
	var list []api.Dist
	for rest := range symbols {
		for signs := range 1 << symbols {
			probs := make([]int, symbols)
			for symbol := range probs {
				probs[symbol] = 1 - signs>>symbol&1*2
			}
			probs[rest] = 32 - symbols + 1
			list = append(list, samples.Of(5, probs...))
		}
	}
	return list
}

// recounted is the table of symbols in an order: their cells have the bits and bases of their numbers.
func recounted(symbols []int) []api.Cell {
	t := make([]api.Cell, len(symbols))
	log := bits.Len(uint(len(symbols))) - 1
	many, before := map[int]int{}, map[int]int{}
	for _, symbol := range symbols {
		many[symbol]++
	}
	for state, symbol := range symbols {
		x := many[symbol] + before[symbol]
		n := max(0, log-(bits.Len(uint(x))-1))
		t[state] = api.Cell{Symbol: symbol, Bits: n, Base: x<<n - 1<<log}
		before[symbol]++
	}
	return t
}

// wrong are tables that are not right.
func wrong() [][]api.Cell {
	right := modelOf(samples.Of(5, 20, 10, -1, 1))
	great := make([]int, 32)
	great[31] = 256
	below := make([]int, 32)
	below[0] = -1
	list := [][]api.Cell{
		nil, {}, make([]api.Cell, 2), make([]api.Cell, 31), make([]api.Cell, 32), make([]api.Cell, 33), right[:16], right[:31], right[1:],
		slices.Concat(right, right), slices.Concat(right, right[:1]), recounted(make([]int, 2)), recounted(make([]int, 16)), recounted(make([]int, 31)), recounted(make([]int, 33)), recounted(make([]int, 48)), recounted(make([]int, 8192)),
		recounted(great), recounted(below),
	}
	for _, cell := range []api.Cell{{Symbol: 256}, {Symbol: -1}, {Symbol: math.MinInt}, {Symbol: math.MaxInt}, {Symbol: 7, Bits: 1}, {Symbol: 7, Bits: -1}, {Symbol: 7, Base: 1}, {Symbol: 7, Base: -1}} {
		list = append(list, []api.Cell{cell})
		spoilt := slices.Clone(right)
		spoilt[5] = cell
		list = append(list, spoilt)
	}
	for state := range right {
		for _, change := range []api.Cell{{Symbol: 1}, {Symbol: -1}, {Symbol: 300}, {Bits: 1}, {Bits: -1}, {Bits: 64}, {Base: 1}, {Base: -1}, {Base: math.MaxInt}} {
			spoilt := slices.Clone(right)
			spoilt[state].Symbol += change.Symbol
			spoilt[state].Bits += change.Bits
			spoilt[state].Base += change.Base
			// The last symbol may have another number, if it has just one cell.
			if state != 9 || change.Symbol != 1 {
				list = append(list, spoilt)
			}
		}
	}
	return list
}
