package steps_test

import (
	"math"
	"testing"

	"cheesepress/api"
	"cheesepress/samples"
	"cheesepress/spread"
	"cheesepress/steps"
)

// table is the encode table of a distribution.
func table(t *testing.T, d api.Dist) steps.Table {
	t.Helper()
	lists := make([][]int, len(d.Probs))
	for symbol, prob := range d.Probs {
		cells, err := spread.Cells(d, symbol)
		if (err == api.OK) != (prob != 0) {
			t.Fatalf("Cells(%v, %d): %v", d, symbol, err)
		}
		lists[symbol] = cells
	}
	return steps.Table{EncodeTable: api.EncodeTable{Log: d.Log, States: lists}}
}

// Has and First, for symbols with cells and without.
func TestHasFirst(t *testing.T) {
	for _, d := range samples.Right() {
		to := table(t, d)
		for symbol, prob := range d.Probs {
			if to.Has(symbol) != (prob != 0) {
				t.Errorf("%v: Has(%d) = %v", d, symbol, to.Has(symbol))
			}
			if cells, _ := spread.Cells(d, symbol); prob != 0 && to.First(symbol) != cells[0] {
				t.Errorf("%v: First(%d) = %d, not %d", d, symbol, to.First(symbol), cells[0])
			}
		}
		for _, symbol := range []int{math.MinInt, -1, len(d.Probs), math.MaxInt} {
			if to.Has(symbol) {
				t.Errorf("%v has %d", d, symbol)
			}
		}
	}
}

// Step, against the number of bits that fits the words of the document.
func TestStep(t *testing.T) {
	for _, d := range samples.Right() {
		to := table(t, d)
		size := 1 << d.Log
		for symbol, prob := range d.Probs {
			if prob == 0 {
				continue
			}
			cells, _ := spread.Cells(d, symbol)
			p := len(cells)
			for _, state := range []int{0, 1, 2, size / 3, size/2 - 1, size / 2, size/2 + 1, size - 2, size - 1} {
				fitting := 0
				next, bits, value := to.Step(state, symbol)
				for n := range 13 {
					if number := (state + size) >> n; number >= p && number <= 2*p-1 {
						fitting++
						if bits != n || value != (state+size)%(1<<n) || next != cells[number-p] {
							t.Fatalf("%v: Step(%d, %d) = %d, %d, %d", d, state, symbol, next, bits, value)
						}
					}
				}
				if fitting != 1 {
					t.Fatalf("%v: %d numbers of bits fit from %d to %d", d, fitting, state, symbol)
				}
			}
		}
	}
}

// The table of one symbol has one state, and steps without bits.
func TestStepOfOne(t *testing.T) {
	to := steps.Table{EncodeTable: api.EncodeTable{States: [][]int{nil, nil, {0}}}}
	if next, bits, value := to.Step(0, 2); next != 0 || bits != 0 || value != 0 || to.First(2) != 0 || to.Has(1) {
		t.Errorf("Step(0, 2) = %d, %d, %d", next, bits, value)
	}
}
