package code_test

import (
	"math"
	"math/big"
	"slices"
	"testing"

	"cheesepress/api"
	"cheesepress/code"
	"cheesepress/samples"
)

// P16.1, P16.2: Check, Most, Codes and Table of right lengths, which stay as they are.
func TestCodesTable(t *testing.T) {
	for _, lengths := range samples.Lengths() {
		before := slices.Clone(lengths)
		if err := code.Check(lengths); err != api.OK {
			t.Errorf("Check(%v) = %v", lengths, err)
		}
		if most, err := code.Most(lengths); most != slices.Max(lengths) || err != api.OK {
			t.Errorf("Most(%v) = %d, %v", lengths, most, err)
		}
		if got, want := codes(t, lengths), modelCodes(lengths); !slices.Equal(got, want) {
			t.Errorf("Codes(%v) = %v, not %v", lengths, got, want)
		}
		var want []api.Cell
		for _, symbol := range modelCells(lengths) {
			want = append(want, api.Cell{Symbol: symbol, Bits: lengths[symbol], Base: 0})
		}
		if got := table(t, lengths); !slices.Equal(got, want) {
			t.Errorf("Table(%v) = %v, not %v", lengths, got, want)
		}
		if !slices.Equal(lengths, before) {
			t.Errorf("the lengths %v have become %v", before, lengths)
		}
	}
}

// P16.2, P1: Decode of all cells, and of numbers that are none.
func TestDecode(t *testing.T) {
	for i, lengths := range samples.Lengths() {
		cells := modelCells(lengths)
		for value, want := range cells {
			if i%10 > 0 && value%7 > 0 && value < len(cells)-1 {
				continue
			}
			if symbol, bits, err := code.Decode(lengths, value); symbol != want || bits != lengths[want] || err != api.OK {
				t.Errorf("Decode(%v, %d) = %d, %d, %v, not %d", lengths, value, symbol, bits, err, want)
			}
		}
		for _, value := range []int{math.MinInt, -2048, -1, len(cells), len(cells) + 1, 2 * len(cells), math.MaxInt} {
			if symbol, bits, err := code.Decode(lengths, value); symbol != 0 || bits != 0 || err != api.ErrRange {
				t.Errorf("Decode(%v, %d) = %d, %d, %v", lengths, value, symbol, bits, err)
			}
		}
	}
}

// P16.1, P1: what is wrong with lengths comes first in all functions.
func TestWrongLengths(t *testing.T) {
	for _, c := range wrongLengths() {
		if err := code.Check(c.lengths); err != c.err {
			t.Errorf("Check(%v) = %v, not %v", c.lengths, err, c.err)
		}
		if most, err := code.Most(c.lengths); most != 0 || err != c.err {
			t.Errorf("Most(%v) = %d, %v, not %v", c.lengths, most, err, c.err)
		}
		if l, err := code.Codes(c.lengths); l != nil || err != c.err {
			t.Errorf("Codes(%v) = %v, %v, not %v", c.lengths, l, err, c.err)
		}
		if l, err := code.Table(c.lengths); l != nil || err != c.err {
			t.Errorf("Table(%v) = %v, %v, not %v", c.lengths, l, err, c.err)
		}
		for _, value := range []int{math.MinInt, -1, 0, 1, math.MaxInt} {
			if symbol, bits, err := code.Decode(c.lengths, value); symbol != 0 || bits != 0 || err != c.err {
				t.Errorf("Decode(%v, %d) = %d, %d, %v, not %v", c.lengths, value, symbol, bits, err, c.err)
			}
		}
		for _, counts := range [][]int{nil, {1}, {-1}, samples.Full(257, 0)} {
			if n, err := code.Bits(c.lengths, counts); n != 0 || err != c.err {
				t.Errorf("Bits(%v, %v) = %d, %v, not %v", c.lengths, counts, n, err, c.err)
			}
			if covers, err := code.Covers(c.lengths, counts); covers || err != c.err {
				t.Errorf("Covers(%v, %v) = %v, %v, not %v", c.lengths, counts, covers, err, c.err)
			}
		}
	}
}

// P16.3: Covers and Bits, with exact sums, also of counts that are too many for layer 6.
func TestBitsCovers(t *testing.T) {
	covered, great := 0, 0
	for _, lengths := range samples.Lengths() {
		for _, counts := range countsFor(lengths) {
			before := slices.Clone(counts)
			sum, want, wantErr := new(big.Int), true, api.OK
			for symbol, count := range counts {
				if count == 0 {
					continue
				}
				if symbol >= len(lengths) || lengths[symbol] == 0 {
					want, wantErr = false, api.ErrMissing
					break
				}
				sum.Add(sum, new(big.Int).Mul(big.NewInt(int64(count)), big.NewInt(int64(lengths[symbol]))))
			}
			if !want {
				sum.SetInt64(0)
			} else {
				covered++
			}
			if sum.Int64() > api.MaxCount {
				great++
			}
			if got, err := code.Covers(lengths, counts); got != want || err != api.OK {
				t.Errorf("Covers(%v, %v) = %v, %v", lengths, counts, got, err)
			}
			if n, err := code.Bits(lengths, counts); big.NewInt(int64(n)).Cmp(sum) != 0 || err != wantErr {
				t.Errorf("Bits(%v, %v) = %d, %v, not %v, %v", lengths, counts, n, err, sum, wantErr)
			}
			if !slices.Equal(counts, before) {
				t.Errorf("the counts %v have become %v", before, counts)
			}
		}
	}
	if covered < 1000 || great < 500 {
		t.Errorf("%d counts are covered, %d sums are great", covered, great)
	}
	// The greatest sum that there is: all counts and 256 codes.
	if n := bits(t, samples.Full(256, 8), samples.Full(256, api.MaxCount)); n != 256*8*api.MaxCount {
		t.Errorf("Bits of the greatest counts = %d", n)
	}
}

// P16.3, P1: counts that are not right come before symbols without codes.
func TestWrongCounts(t *testing.T) {
	for _, lengths := range [][]int{{1, 1}, {0, 1, 1}, samples.Full(256, 8)} {
		for _, counts := range wrongCounts() {
			if n, err := code.Bits(lengths, counts); n != 0 || err != api.ErrRange {
				t.Errorf("Bits(%v, %v) = %d, %v", lengths, counts, n, err)
			}
			if covers, err := code.Covers(lengths, counts); covers || err != api.ErrRange {
				t.Errorf("Covers(%v, %v) = %v, %v", lengths, counts, covers, err)
			}
		}
	}
}

// The chapter's examples.
func TestExamples(t *testing.T) {
	l := []int{1, 2, 2}
	if got := codes(t, l); !slices.Equal(got, []api.Code{{Bits: 1, Value: 1}, {Bits: 2, Value: 0}, {Bits: 2, Value: 1}}) {
		t.Errorf("Codes(1 2 2) = %v", got)
	}
	if most, err := code.Most(l); most != 2 || err != api.OK {
		t.Errorf("Most(1 2 2) = %d, %v", most, err)
	}
	if got := table(t, l); !slices.Equal(got, []api.Cell{{Symbol: 1, Bits: 2}, {Symbol: 2, Bits: 2}, {Symbol: 0, Bits: 1}, {Symbol: 0, Bits: 1}}) {
		t.Errorf("Table(1 2 2) = %v", got)
	}
	for _, c := range []struct {
		value, symbol, bits int
		err                 api.Errno
	}{{3, 0, 1, api.OK}, {0, 1, 2, api.OK}, {4, 0, 0, api.ErrRange}} {
		if symbol, bits, err := code.Decode(l, c.value); symbol != c.symbol || bits != c.bits || err != c.err {
			t.Errorf("Decode(1 2 2, %d) = %d, %d, %v", c.value, symbol, bits, err)
		}
	}
	if got := codes(t, []int{0, 1, 0, 1}); !slices.Equal(got, []api.Code{{}, {Bits: 1, Value: 0}, {}, {Bits: 1, Value: 1}}) {
		t.Errorf("Codes(0 1 0 1) = %v", got)
	}
	for _, c := range []judged{{[]int{1}, api.ErrTree}, {[]int{1, 2}, api.ErrTree}, {[]int{1, 1, 1}, api.ErrTree}, {[]int{12, 1}, api.ErrRange}, {nil, api.ErrTree}} {
		if err := code.Check(c.lengths); err != c.err {
			t.Errorf("Check(%v) = %v, not %v", c.lengths, err, c.err)
		}
	}
	if n := bits(t, l, []int{5, 1, 0}); n != 7 {
		t.Errorf("Bits(1 2 2, 5 1 0) = %d", n)
	}
	if n, err := code.Bits([]int{0, 1, 1}, []int{1}); n != 0 || err != api.ErrMissing {
		t.Errorf("Bits(0 1 1, 1) = %d, %v", n, err)
	}
	if covers, err := code.Covers([]int{0, 1, 1}, []int{0, 7}); !covers || err != api.OK {
		t.Errorf("Covers(0 1 1, 0 7) = %v, %v", covers, err)
	}
}

// What is changed in a result does not show in another one.
func TestResultsShareNothing(t *testing.T) {
	l := []int{1, 2, 2}
	one, other := codes(t, l), codes(t, l)
	one[0].Value = 1000
	cells, same := table(t, l), table(t, l)
	cells[0].Symbol = 1000
	if other[0].Value == 1000 || same[0].Symbol == 1000 {
		t.Errorf("%v and %v, or %v and %v share memory", one, other, cells, same)
	}
}
