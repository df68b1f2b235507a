package decode_test

import (
	"math/bits"
	"slices"
	"testing"

	"cheesepress/api"
	"cheesepress/decode"
	"cheesepress/samples"
)

// P10.3: the ranges of the cells of a symbol lie one beside the other, and make up all states.
func TestRanges(t *testing.T) {
	for _, d := range samples.Right() {
		ranges := make([][]api.Cell, len(d.Probs))
		for _, cell := range of(t, d) {
			ranges[cell.Symbol] = append(ranges[cell.Symbol], cell)
		}
		for symbol, cells := range ranges {
			if len(cells) == 0 {
				continue
			}
			slices.SortFunc(cells, func(a, b api.Cell) int { return a.Base - b.Base })
			end := 0
			for _, cell := range cells {
				if cell.Base != end {
					t.Errorf("Of(%v): the ranges of %d are %v", d, symbol, cells)
				}
				end = cell.Base + 1<<cell.Bits
			}
			if end != 1<<d.Log {
				t.Errorf("Of(%v): the ranges of %d end with %d", d, symbol, end)
			}
		}
	}
}

// P10.4: each state is the next one of just one cell of each symbol, for just one v.
func TestOnceNext(t *testing.T) {
	for _, d := range small()[:40] {
		table := of(t, d)
		type way struct{ symbol, to int }
		ways := map[way]int{}
		for state, cell := range table {
			for v := range 1 << cell.Bits {
				ways[way{cell.Symbol, next(t, table, state, v)}]++
			}
		}
		for symbol, prob := range d.Probs {
			for to := range table {
				want := 1
				if prob == 0 {
					want = 0
				}
				if got := ways[way{symbol, to}]; got != want {
					t.Errorf("Of(%v): %d ways lead from %d to the state %d", d, got, symbol, to)
				}
			}
		}
	}
}

// P10.5: Bits is from 0 to the log, and 0 only for a symbol with more than half of the cells.
func TestBits(t *testing.T) {
	for _, d := range samples.Right() {
		for _, cell := range of(t, d) {
			if cell.Bits < 0 || cell.Bits > d.Log || cell.Bits == 0 && d.Probs[cell.Symbol] <= 1<<d.Log/2 {
				t.Errorf("Of(%v) has the cell %v", d, cell)
			}
		}
	}
}

// P10.6: a symbol has as many cells as its probability says.
func TestShares(t *testing.T) {
	for _, d := range samples.Right() {
		have := make([]int, len(d.Probs))
		for _, cell := range of(t, d) {
			have[cell.Symbol]++
		}
		for symbol, prob := range d.Probs {
			if want := max(prob, -prob); have[symbol] != want {
				t.Errorf("Of(%v): %d has %d cells", d, symbol, have[symbol])
			}
		}
	}
}

// P10.7: the first cell of a symbol has the Log less the highest bit of its probability.
func TestFirstCells(t *testing.T) {
	for _, d := range slices.Concat(small(), signs(4)) {
		table := of(t, d)
		for symbol, prob := range d.Probs {
			if prob == 0 {
				continue
			}
			state, err := decode.First(table, symbol)
			if err != api.OK {
				t.Fatalf("First(Of(%v), %d): %v", d, symbol, err)
			}
			if want := d.Log - (bits.Len(uint(max(prob, 1))) - 1); table[state].Bits != want {
				t.Errorf("the first cell of %d in Of(%v) is %v", symbol, d, table[state])
			}
		}
	}
}
