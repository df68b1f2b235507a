package spread_test

import (
	"math"
	"slices"
	"testing"

	"cheesepress/api"
	"cheesepress/dist"
	"cheesepress/samples"
	"cheesepress/spread"
)

// P9.1: the step of each accuracy, and of numbers that are none.
func TestStep(t *testing.T) {
	want := map[int]int{5: 23, 6: 43, 7: 83, 8: 163, 9: 323, 10: 643, 11: 1283, 12: 2563}
	for _, log := range []int{math.MinInt, -5, -1, 0, 1, 2, 3, 4, 5, 6, 7, 8, 9, 10, 11, 12, 13, 14, 62, 63, 64, 69, math.MaxInt} {
		step, right := want[log]
		err := api.OK
		if !right {
			err = api.ErrRange
		}
		if got, e := spread.Step(log); got != step || e != err {
			t.Errorf("Step(%d) = %d, %v, not %d, %v", log, got, e, step, err)
		}
	}
}

// P9.1, P1: what is wrong with a distribution comes first, whatever the symbol is.
func TestWrong(t *testing.T) {
	for _, c := range samples.Wrong() {
		for name, f := range map[string]func(api.Dist) ([]int, api.Errno){"Of": spread.Of, "Numbers": spread.Numbers, "Bits": spread.Bits} {
			if l, err := f(c.Dist); l != nil || err != c.Err {
				t.Errorf("%s(%v) = %v, %v, not %v", name, c.Dist, l, err, c.Err)
			}
		}
		for _, symbol := range append(outside(len(c.Dist.Probs)), 0, 1) {
			if l, err := spread.Cells(c.Dist, symbol); l != nil || err != c.Err {
				t.Errorf("Cells(%v, %d) = %v, %v, not %v", c.Dist, symbol, l, err, c.Err)
			}
			if cell, err := spread.First(c.Dist, symbol); cell != 0 || err != c.Err {
				t.Errorf("First(%v, %d) = %d, %v, not %v", c.Dist, symbol, cell, err, c.Err)
			}
		}
	}
}

// P9.2: the symbols, numbers and bits of cells; the distribution stays as it is.
func TestOfNumbersBits(t *testing.T) {
	for _, d := range samples.Right() {
		before := slices.Clone(d.Probs)
		if got, want := of(t, d), modelOf(d); !slices.Equal(got, want) {
			t.Errorf("Of(%v) = %v, not %v", d, got, want)
		}
		numbers, bits := numbersAndBits(t, d)
		if want := modelNumbers(d); !slices.Equal(numbers, want) {
			t.Errorf("Numbers(%v) = %v, not %v", d, numbers, want)
		}
		if want := modelBits(d); !slices.Equal(bits, want) {
			t.Errorf("Bits(%v) = %v, not %v", d, bits, want)
		}
		if !slices.Equal(d.Probs, before) {
			t.Errorf("the probabilities %v have become %v", before, d.Probs)
		}
	}
}

// P9.2: the predefined distribution of literal lengths, whose table RFC 8878 shows.
func TestPredefined(t *testing.T) {
	d, _ := dist.Predefined(api.KindLits)
	want := []int{
		0, 0, 1, 3, 4, 6, 7, 9, 10, 12, 14, 16, 18, 19, 21, 22, 24, 25, 26, 27, 29, 31, 0, 1, 2, 4, 5, 7, 8, 10, 11, 13,
		16, 17, 19, 20, 22, 23, 25, 25, 26, 28, 30, 0, 1, 2, 3, 5, 6, 8, 9, 11, 12, 15, 17, 18, 20, 21, 23, 24, 35, 34, 33, 32,
	}
	if got := of(t, d); !slices.Equal(got, want) {
		t.Errorf("Of(predefined) = %v", got)
	}
}

// P9.3: the cells of each symbol, and the first of them.
func TestCellsFirst(t *testing.T) {
	for _, d := range samples.Right() {
		cells := modelOf(d)
		for symbol, prob := range d.Probs {
			var want []int
			for cell, owner := range cells {
				if owner == symbol {
					want = append(want, cell)
				}
			}
			first, err := 0, api.ErrMissing
			if prob != 0 {
				first, err = want[0], api.OK
			}
			if got, e := spread.Cells(d, symbol); !slices.Equal(got, want) || e != err {
				t.Fatalf("Cells(%v, %d) = %v, %v, not %v, %v", d, symbol, got, e, want, err)
			}
			if got, e := spread.First(d, symbol); got != first || e != err {
				t.Fatalf("First(%v, %d) = %d, %v, not %d, %v", d, symbol, got, e, first, err)
			}
		}
	}
}

// P9.3: numbers that no probability has.
func TestSymbolOutside(t *testing.T) {
	for _, d := range samples.Right() {
		for _, symbol := range outside(len(d.Probs)) {
			if l, err := spread.Cells(d, symbol); l != nil || err != api.ErrRange {
				t.Errorf("Cells(%v, %d) = %v, %v", d, symbol, l, err)
			}
			if cell, err := spread.First(d, symbol); cell != 0 || err != api.ErrRange {
				t.Errorf("First(%v, %d) = %d, %v", d, symbol, cell, err)
			}
		}
	}
}

// The chapter's examples.
func TestExamples(t *testing.T) {
	d, e := chapter()
	cells := of(t, d)
	if !slices.Equal(cells[:8], []int{0, 0, 0, 1, 1, 0, 0, 1}) || cells[31] != 2 {
		t.Errorf("Of(%v) = %v", d, cells)
	}
	numbers, bits := numbersAndBits(t, d)
	if !slices.Equal(numbers[:4], []int{16, 17, 18, 15}) || numbers[31] != 1 {
		t.Errorf("Numbers(%v) = %v", d, numbers)
	}
	if !slices.Equal(bits[:4], []int{1, 1, 1, 2}) || bits[31] != 5 {
		t.Errorf("Bits(%v) = %v", d, bits)
	}
	if l, err := spread.Cells(d, 2); !slices.Equal(l, []int{31}) || err != api.OK {
		t.Errorf("Cells(%v, 2) = %v, %v", d, l, err)
	}
	if l, err := spread.Cells(d, 3); l != nil || err != api.ErrRange {
		t.Errorf("Cells(%v, 3) = %v, %v", d, l, err)
	}
	if cell, err := spread.First(d, 1); cell != 3 || err != api.OK {
		t.Errorf("First(%v, 1) = %d, %v", d, cell, err)
	}
	if cell, err := spread.First(e, 0); cell != 0 || err != api.OK {
		t.Errorf("First(%v, 0) = %d, %v", e, cell, err)
	}
}

// What is changed in a result does not show in the distribution, or in other results.
func TestResultsShareNothing(t *testing.T) {
	d, _ := chapter()
	for name, f := range map[string]func() ([]int, api.Errno){
		"Of":      func() ([]int, api.Errno) { return spread.Of(d) },
		"Numbers": func() ([]int, api.Errno) { return spread.Numbers(d) },
		"Bits":    func() ([]int, api.Errno) { return spread.Bits(d) },
		"Cells":   func() ([]int, api.Errno) { return spread.Cells(d, 0) },
	} {
		one, _ := f()
		other, _ := f()
		one[0] = 1000
		if other[0] == 1000 || !slices.Equal(d.Probs, []int{16, 15, -1}) {
			t.Errorf("%s: %v, %v and %v share memory", name, one, other, d.Probs)
		}
	}
}
