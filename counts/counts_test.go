package counts_test

import (
	"math/big"
	"slices"
	"testing"

	"cheesepress/api"
	"cheesepress/counts"
)

// P6.1: Check of counts that are right, and of others.
func TestCheck(t *testing.T) {
	for _, l := range right() {
		if err := counts.Check(l); err != api.OK {
			t.Errorf("Check(%v) = %v", l, err)
		}
	}
	for _, c := range wrong() {
		if err := counts.Check(c.counts); err != c.err {
			t.Errorf("Check(%v) = %v, not %v", c.counts, err, c.err)
		}
	}
}

// P6.1, P1: every function with counts returns the error of Check, and nothing else.
func TestWrongCounts(t *testing.T) {
	for _, c := range wrong() {
		for name, f := range map[string]func([]int) (int, api.Errno){"Total": counts.Total, "Distinct": counts.Distinct, "Last": counts.Last} {
			if n, err := f(c.counts); n != 0 || err != c.err {
				t.Errorf("%s(%v) = %d, %v", name, c.counts, n, err)
			}
		}
		if symbol, count, err := counts.Greatest(c.counts); symbol != 0 || count != 0 || err != c.err {
			t.Errorf("Greatest(%v) = %d, %d, %v", c.counts, symbol, count, err)
		}
		if symbol, only, err := counts.Only(c.counts); symbol != 0 || only || err != c.err {
			t.Errorf("Only(%v) = %d, %v, %v", c.counts, symbol, only, err)
		}
		for _, has := range [][]bool{nil, slices.Repeat([]bool{true}, 300)} {
			if covers, err := counts.Covers(c.counts, has); covers || err != c.err {
				t.Errorf("Covers(%v, %d) = %v, %v", c.counts, len(has), covers, err)
			}
		}
		if l, err := counts.Halve(c.counts); len(l) != 0 || err != c.err {
			t.Errorf("Halve(%v) = %v, %v", c.counts, l, err)
		}
	}
}

// found are the symbols that occur, by their definition.
func found(l []int) []int {
	var symbols []int
	for symbol, count := range l {
		if count > 0 {
			symbols = append(symbols, symbol)
		}
	}
	return symbols
}

// P6.3: Total and Distinct.
func TestTotalDistinct(t *testing.T) {
	for _, l := range right() {
		sum := new(big.Int)
		for _, count := range l {
			sum.Add(sum, big.NewInt(int64(count)))
		}
		if n, err := counts.Total(l); big.NewInt(int64(n)).Cmp(sum) != 0 || err != api.OK {
			t.Errorf("Total(%v) = %d, %v", l, n, err)
		}
		if n, err := counts.Distinct(l); n != len(found(l)) || err != api.OK {
			t.Errorf("Distinct(%v) = %d, %v", l, n, err)
		}
	}
}

// P6.3: Last, Greatest and Only; none occurs in empty counts, and in those that are all 0.
func TestLastGreatestOnly(t *testing.T) {
	for _, l := range right() {
		symbols := found(l)
		last, greatest, count, missing := 0, 0, 0, api.ErrMissing
		if len(symbols) > 0 {
			last, count, missing = slices.Max(symbols), slices.Max(l), api.OK
			greatest = slices.Index(l, count)
		}
		if n, err := counts.Last(l); n != last || err != missing {
			t.Errorf("Last(%v) = %d, %v", l, n, err)
		}
		if symbol, n, err := counts.Greatest(l); symbol != greatest || n != count || err != missing {
			t.Errorf("Greatest(%v) = %d, %d, %v", l, symbol, n, err)
		}
		only := 0
		if len(symbols) == 1 {
			only = symbols[0]
		}
		if symbol, got, err := counts.Only(l); symbol != only || got != (len(symbols) == 1) || err != api.OK {
			t.Errorf("Only(%v) = %d, %v, %v", l, symbol, got, err)
		}
	}
}

// P6.3: Covers asks just for symbols that occur, and those behind the end of has are not covered.
func TestCovers(t *testing.T) {
	for _, l := range right() {
		symbols := found(l)
		has := make([]bool, len(l)+2)
		for _, symbol := range symbols {
			has[symbol] = true
		}
		for n := range len(has) + 1 {
			want := len(symbols) == 0 || symbols[len(symbols)-1] < n
			if got, err := counts.Covers(l, has[:n]); got != want || err != api.OK {
				t.Errorf("Covers(%v, %v) = %v, %v", l, has[:n], got, err)
			}
		}
		for i := range has {
			has[i] = !has[i]
			want := i >= len(l) || l[i] == 0
			if got, err := counts.Covers(l, has); got != want || err != api.OK {
				t.Errorf("Covers(%v) without %d = %v, %v", l, i, got, err)
			}
			has[i] = !has[i]
		}
	}
}

// P6.3: Halve rounds up.
func TestHalve(t *testing.T) {
	for _, l := range right() {
		before := slices.Clone(l)
		got, err := counts.Halve(l)
		if err != api.OK || len(got) != len(l) {
			t.Fatalf("Halve(%v) = %v, %v", l, got, err)
		}
		for symbol, half := range got {
			if 2*half != l[symbol] && 2*half != l[symbol]+1 {
				t.Errorf("Halve(%v) = %v", l, got)
			}
		}
		if !slices.Equal(l, before) {
			t.Errorf("Halve has changed %v to %v", before, l)
		}
	}
}

// P6.8: halving keeps which symbols occur, and their order; at last all counts are 0 or 1.
func TestHalveOften(t *testing.T) {
	for _, l := range right() {
		from := l
		for range 41 {
			half, err := counts.Halve(from)
			if err != api.OK || !slices.Equal(found(half), found(l)) {
				t.Fatalf("Halve(%v) = %v, %v", from, half, err)
			}
			for i := range from {
				for j := range from {
					if from[i] >= from[j] && half[i] < half[j] {
						t.Errorf("Halve(%v) = %v: %d and %d have changed their order", from, half, i, j)
					}
				}
			}
			from = half
		}
		if len(from) > 0 && slices.Max(from) > 1 {
			t.Errorf("%v was halved 41 times, to %v", l, from)
		}
	}
}

// P6.7: Only is true exactly if Distinct is 1.
func TestOnlyIsDistinct(t *testing.T) {
	for _, l := range right() {
		n, _ := counts.Distinct(l)
		if _, only, _ := counts.Only(l); only != (n == 1) {
			t.Errorf("Only(%v) is %v, Distinct is %d", l, only, n)
		}
	}
}

// The chapter's examples.
func TestExamples(t *testing.T) {
	c := []int{0, 3, 0, 3, 1}
	total, _ := counts.Total(c)
	distinct, _ := counts.Distinct(c)
	last, _ := counts.Last(c)
	symbol, count, err := counts.Greatest(c)
	if total != 7 || distinct != 3 || last != 4 || symbol != 1 || count != 3 || err != api.OK {
		t.Errorf("%d, %d, %d, %d, %d, %v", total, distinct, last, symbol, count, err)
	}
	for _, e := range []struct {
		counts []int
		symbol int
		only   bool
	}{{c, 0, false}, {[]int{0, 5}, 1, true}, {[]int{0, 0}, 0, false}} {
		if symbol, only, err := counts.Only(e.counts); symbol != e.symbol || only != e.only || err != api.OK {
			t.Errorf("Only(%v) = %d, %v, %v", e.counts, symbol, only, err)
		}
	}
	if _, _, err := counts.Greatest(nil); err != api.ErrMissing {
		t.Errorf("Greatest(none): %v", err)
	}
	for _, has := range [][]bool{{false, true, false, true, true}, {false, true}} {
		if covers, err := counts.Covers(c, has); covers != (len(has) == 5) || err != api.OK {
			t.Errorf("Covers(%v, %v) = %v, %v", c, has, covers, err)
		}
	}
	if half, err := counts.Halve(c); !slices.Equal(half, []int{0, 2, 0, 2, 1}) || err != api.OK {
		t.Errorf("Halve(%v) = %v, %v", c, half, err)
	}
	if l, err := counts.Symbols([]int{1, 3, 1}, 4); !slices.Equal(l, []int{0, 2, 0, 1, 0}) || err != api.OK {
		t.Errorf("Symbols(1 3 1, 4) = %v, %v", l, err)
	}
	if l, err := counts.Symbols([]int{5}, 4); len(l) != 0 || err != api.ErrRange {
		t.Errorf("Symbols(5, 4) = %v, %v", l, err)
	}
	if !counts.Same("aa") || counts.Same("") {
		t.Error("Same of aa, or of the empty string")
	}
	if counts.Check([]int{-1}) != api.ErrRange || counts.Check(full(257, 0)) != api.ErrFull {
		t.Error("Check of -1, or of 257 counts")
	}
}
