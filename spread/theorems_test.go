package spread_test

import (
	"slices"
	"testing"

	"cheesepress/api"
	"cheesepress/samples"
	"cheesepress/spread"
)

// P9.4: each symbol has as many cells as its probability says, and each cell one symbol.
func TestShares(t *testing.T) {
	for _, d := range samples.Right() {
		cells := of(t, d)
		if len(cells) != 1<<d.Log {
			t.Errorf("Of(%v) has %d cells", d, len(cells))
		}
		have := make([]int, len(d.Probs))
		for _, symbol := range cells {
			have[symbol]++
		}
		for symbol, prob := range d.Probs {
			if have[symbol] != points(prob) {
				t.Errorf("Of(%v): %d has %d cells", d, symbol, have[symbol])
			}
		}
	}
}

// P9.5: the cells of a symbol are reached from all states together.
func TestSumOfPowers(t *testing.T) {
	for _, d := range samples.Right() {
		cells := of(t, d)
		_, bits := numbersAndBits(t, d)
		sums := make([]int, len(d.Probs))
		for cell, symbol := range cells {
			sums[symbol] += 1 << bits[cell]
		}
		for symbol, prob := range d.Probs {
			if prob != 0 && sums[symbol] != 1<<d.Log {
				t.Errorf("Bits(%v): the sum of %d is %d", d, symbol, sums[symbol])
			}
		}
	}
}

// P9.6: the symbols with -1 have the last cells, the least one the very last, and the Bits Log.
func TestRareAreLast(t *testing.T) {
	for _, d := range samples.Right() {
		cells := of(t, d)
		_, bits := numbersAndBits(t, d)
		cell := len(cells) - 1
		for symbol, prob := range d.Probs {
			if prob != -1 {
				continue
			}
			if cells[cell] != symbol || bits[cell] != d.Log {
				t.Errorf("Of(%v): the cell %d is of %d, and has %d bits", d, cell, cells[cell], bits[cell])
			}
			if first, err := spread.First(d, symbol); first != cell || err != api.OK {
				t.Errorf("First(%v, %d) = %d, %v, not %d", d, symbol, first, err, cell)
			}
			cell--
		}
	}
}

// P9.7: a step leads through all cells, and back.
func TestStepLeadsBack(t *testing.T) {
	for log := 5; log <= 12; log++ {
		step, _ := spread.Step(log)
		size := 1 << log
		var met []int
		for place := 0; ; {
			met = append(met, place)
			place = (place + step) % size
			if place == 0 || len(met) > size {
				break
			}
		}
		slices.Sort(met)
		if len(met) != size || len(slices.Compact(met)) != size {
			t.Errorf("the step %d of Log %d meets %d cells", step, log, len(met))
		}
	}
}
