package encode_test

import (
	"math/bits"
	"slices"
	"testing"

	"cheesepress/api"
	"cheesepress/decode"
	"cheesepress/encode"
	"cheesepress/samples"
)

// P11.4, P11.5: the decode table leads back from the next state, and the bits are Log less the highest bit of p, or 1 less.
func TestStepsLeadBack(t *testing.T) {
	for _, d := range small() {
		table := of(t, d)
		cells, _ := decode.Of(d)
		for symbol, prob := range d.Probs {
			if prob == 0 {
				continue
			}
			most := d.Log - (bits.Len(uint(max(prob, 1))) - 1)
			for state := range cells {
				next, n, value, err := encode.Put(table, state, symbol)
				if err != api.OK {
					t.Fatalf("Put(Of(%v), %d, %d): %v", d, state, symbol, err)
				}
				cell := cells[next]
				if cell.Symbol != symbol || cell.Bits != n || cell.Base+value != state || value < 0 || value >= 1<<n {
					t.Errorf("Put(Of(%v), %d, %d) = %d, %d, %d, but the cell is %v", d, state, symbol, next, n, value, cell)
				}
				if n != most && n != most-1 {
					t.Errorf("Put(Of(%v), %d, %d): %d bits", d, state, symbol, n)
				}
			}
		}
	}
}

// P11.6: the first state of a symbol has Log less the highest bit of p bits: 1 at least, unless it has all cells.
func TestFirstStates(t *testing.T) {
	for _, d := range small() {
		table := of(t, d)
		cells, _ := decode.Of(d)
		for symbol, prob := range d.Probs {
			if prob == 0 {
				continue
			}
			state, err := encode.First(table, symbol)
			n := cells[state].Bits
			if err != api.OK || n != d.Log-(bits.Len(uint(max(prob, 1)))-1) || (n == 0) != (prob == 1<<d.Log) {
				t.Errorf("First(Of(%v), %d) = %d, %v, the cell %v", d, symbol, state, err, cells[state])
			}
		}
	}
}

// P11.7: Cells has each symbol as often as it has cells, and the lists are where it stands.
func TestCellsAndLists(t *testing.T) {
	tables := handmade()
	for _, d := range samples.Right() {
		tables = append(tables, of(t, d))
	}
	for _, table := range tables {
		symbols, err := encode.Cells(table)
		if err != api.OK {
			t.Fatalf("Cells(%v): %v", table, err)
		}
		lists := make([][]int, len(table.States))
		for cell, symbol := range symbols {
			lists[symbol] = append(lists[symbol], cell)
		}
		if !same(table, api.EncodeTable{Log: table.Log, States: lists}) {
			t.Errorf("Cells(%v) = %v", table, symbols)
		}
	}
}

// P11.8: Run of one symbol is its first state, and has no bits.
func TestRunOfOne(t *testing.T) {
	for _, table := range slices.Concat(handmade(), []api.EncodeTable{of(t, samples.Of(5, 31, -1)), of(t, samples.Of(5, 16, 8, 8))}) {
		for symbol, cells := range table.States {
			if len(cells) == 0 {
				continue
			}
			if state, n, err := encode.Run(table, []int{symbol}); state != cells[0] || n != 0 || err != api.OK {
				t.Errorf("Run(%v, %d) = %d, %d, %v", table, symbol, state, n, err)
			}
		}
	}
}
