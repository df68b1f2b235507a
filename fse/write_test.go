package fse_test

import (
	"slices"
	"testing"

	"cheesepress/api"
	"cheesepress/digits"
	"cheesepress/fse"
	"cheesepress/samples"
)

// P12.1: the streams of lists, with one state and with two; nothing is changed.
func TestWrite(t *testing.T) {
	for _, d := range small() {
		probs := slices.Clone(d.Probs)
		for _, n := range []int{1, 2, 3, 4, 5, 17, 60} {
			l := chanceList(d, n)
			before := slices.Clone(l)
			want := modelWrite(t, d, l, 1)
			if s, err := fse.Write(d, l); s != want || err != api.OK {
				t.Errorf("Write(%v, %v) = %x, %v, not %x", d, l, s, err, want)
			}
			if n > 1 {
				want := modelWrite(t, d, l, 2)
				if s, err := fse.WriteTwo(d, l); s != want || err != api.OK {
					t.Errorf("WriteTwo(%v, %v) = %x, %v, not %x", d, l, s, err, want)
				}
			}
			if !slices.Equal(l, before) || !slices.Equal(d.Probs, probs) {
				t.Errorf("%v and %v have become %v and %v", probs, before, d.Probs, l)
			}
		}
	}
}

// P12.1: a stream bit by bit. The cells of d are 0 1 0 0 1 1 0 0 .. in this order; the symbols have a bit for each step.
func TestWriteBits(t *testing.T) {
	d, _ := chapter()
	// From its end: 0 is the state 0; with 32 it is 16 and the bit 0 to 1, whose first cell is 3; 35 is 17 and the bit 1 to 0, whose second cell is 1.
	if s := written(t, d, []int{0, 1, 0}); s != digits.Pack("0"+"1"+digits.Of(1, 5)+"1") {
		t.Errorf("Write(%v, 0 1 0) = %x", d, s)
	}
	// The first state goes from 0 to 0, with the bit 0; the second one is 3.
	if s := writtenTwo(t, d, []int{0, 1, 0}); s != digits.Pack("0"+digits.Of(3, 5)+digits.Of(0, 5)+"1") {
		t.Errorf("WriteTwo(%v, 0 1 0) = %x", d, s)
	}
}

// P12.1: Cost is the number of bits of the stream with one state.
func TestCost(t *testing.T) {
	for _, d := range small() {
		for _, n := range []int{1, 2, 3, 17, 60} {
			l := chanceList(d, n)
			want := len(restOf(modelWrite(t, d, l, 1)))
			if got, err := fse.Cost(d, l); got != want || err != api.OK {
				t.Errorf("Cost(%v, %v) = %d, %v, not %d", d, l, got, err, want)
			}
		}
	}
}

// P12.1: Covers, with symbols that occur, with others, and with none; a list may have any length.
func TestCovers(t *testing.T) {
	d := samples.Of(5, 16, 0, 15, -1)
	for _, l := range [][]int{nil, {}, {0}, {2}, {3}, {0, 2, 3}, slices.Repeat([]int{3, 0}, 100001)} {
		if covers, err := fse.Covers(d, l); !covers || err != api.OK {
			t.Errorf("Covers(%v, %d symbols) = %v, %v", d, len(l), covers, err)
		}
	}
	for _, symbol := range noSymbols() {
		for _, l := range [][]int{{symbol}, {0, symbol}, {symbol, 0}, slices.Concat(slices.Repeat([]int{3}, 100001), []int{symbol})} {
			if covers, err := fse.Covers(d, l); covers || err != api.OK {
				t.Errorf("Covers(%v, %d symbols and %d) = %v, %v", d, len(l), symbol, covers, err)
			}
		}
	}
	for _, d := range samples.Right() {
		for symbol, prob := range d.Probs {
			if covers, err := fse.Covers(d, []int{symbol}); covers != (prob != 0) || err != api.OK {
				t.Errorf("Covers(%v, %d) = %v, %v", d, symbol, covers, err)
			}
		}
	}
}

// P12.1, P1: what is wrong with a distribution comes first, whatever the list is.
func TestWrongDist(t *testing.T) {
	for _, c := range samples.Wrong() {
		for _, l := range [][]int{nil, {0}, {0, 0}, {-1, 300}, slices.Repeat([]int{0}, 100001)} {
			refused(t, c.Dist, l, c.Err, c.Err)
			if covers, err := fse.Covers(c.Dist, l); covers || err != c.Err {
				t.Errorf("Covers(%v, %d symbols) = %v, %v, not %v", c.Dist, len(l), covers, err, c.Err)
			}
		}
	}
}

// refused asks for the error one of Write and Cost, and for the error two of WriteTwo.
func refused(t *testing.T, d api.Dist, l []int, one, two api.Errno) {
	t.Helper()
	if s, err := fse.Write(d, l); s != "" || err != one {
		t.Errorf("Write(%v, %d symbols) = %x, %v, not %v", d, len(l), s, err, one)
	}
	if n, err := fse.Cost(d, l); n != 0 || err != one {
		t.Errorf("Cost(%v, %d symbols) = %d, %v, not %v", d, len(l), n, err, one)
	}
	if s, err := fse.WriteTwo(d, l); s != "" || err != two {
		t.Errorf("WriteTwo(%v, %d symbols) = %x, %v, not %v", d, len(l), s, err, two)
	}
}

// P12.1: lists that are too long, too short, or have a symbol that does not occur, in this order.
func TestWrongLists(t *testing.T) {
	d := samples.Of(5, 16, 0, 15, -1)
	refused(t, d, nil, api.ErrShort, api.ErrShort)
	refused(t, d, []int{}, api.ErrShort, api.ErrShort)
	for _, symbol := range noSymbols() {
		refused(t, d, []int{symbol}, api.ErrMissing, api.ErrShort)
		refused(t, d, []int{symbol, 0}, api.ErrMissing, api.ErrMissing)
		refused(t, d, []int{0, 2, symbol}, api.ErrMissing, api.ErrMissing)
		long := slices.Repeat([]int{0}, 100000)
		long[50000] = symbol
		refused(t, d, long, api.ErrMissing, api.ErrMissing)
		refused(t, d, append(long, 0), api.ErrLong, api.ErrLong)
	}
	refused(t, d, slices.Repeat([]int{0}, 100001), api.ErrLong, api.ErrLong)
	if s, err := fse.WriteTwo(d, []int{0}); s != "" || err != api.ErrShort {
		t.Errorf("WriteTwo(%v, 0) = %x, %v", d, s, err)
	}
}
