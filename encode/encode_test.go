package encode_test

import (
	"math"
	"slices"
	"testing"

	"cheesepress/api"
	"cheesepress/decode"
	"cheesepress/encode"
	"cheesepress/samples"
)

// P11.1: the encode table of a distribution; the distribution stays as it is.
func TestOf(t *testing.T) {
	for _, d := range samples.Right() {
		before := slices.Clone(d.Probs)
		table := of(t, d)
		if want := modelOf(d); !same(table, want) {
			t.Errorf("Of(%v) = %v, not %v", d, table, want)
		}
		if err := encode.Check(table); err != api.OK {
			t.Errorf("Check(Of(%v)) = %v", d, err)
		}
		if !slices.Equal(d.Probs, before) {
			t.Errorf("the probabilities %v have become %v", before, d.Probs)
		}
	}
	for _, c := range samples.Wrong() {
		if table, err := encode.Of(c.Dist); !none(table) || err != c.Err {
			t.Errorf("Of(%v) = %v, %v, not %v", c.Dist, table, err, c.Err)
		}
	}
}

// P11.1: the table of each symbol, and of numbers that are none.
func TestOne(t *testing.T) {
	for _, symbol := range []int{math.MinInt, -256, -1, 0, 1, 3, 127, 128, 254, 255, 256, 257, math.MaxInt} {
		table, err := encode.One(symbol)
		if symbol < 0 || symbol > 255 {
			if !none(table) || err != api.ErrRange {
				t.Errorf("One(%d) = %v, %v", symbol, table, err)
			}
			continue
		}
		want := api.EncodeTable{States: make([][]int, symbol+1)}
		want.States[symbol] = []int{0}
		if !same(table, want) || err != api.OK || encode.Check(table) != api.OK {
			t.Errorf("One(%d) = %v, %v", symbol, table, err)
		}
	}
}

// P11.1: Check of tables that are right, though of no distribution.
func TestCheckRight(t *testing.T) {
	for _, table := range handmade() {
		before := clone(table)
		if err := encode.Check(table); err != api.OK || !same(table, before) {
			t.Errorf("Check(%v) = %v", table, err)
		}
	}
}

// P11.1, P1: the error of Check, which comes first in all functions with a table.
func TestCheckWrong(t *testing.T) {
	for _, c := range wrong() {
		if err := encode.Check(c.t); err != c.err {
			t.Errorf("Check(%v) = %v, not %v", c.t, err, c.err)
		}
		if l, err := encode.Cells(c.t); l != nil || err != c.err {
			t.Errorf("Cells(%v) = %v, %v, not %v", c.t, l, err, c.err)
		}
		for _, n := range []int{math.MinInt, -1, 0, 1, 256, math.MaxInt} {
			if state, err := encode.First(c.t, n); state != 0 || err != c.err {
				t.Errorf("First(%v, %d) = %d, %v, not %v", c.t, n, state, err, c.err)
			}
			for _, state := range []int{math.MinInt, -1, 0, 1, math.MaxInt} {
				if next, bits, value, err := encode.Put(c.t, state, n); next != 0 || bits != 0 || value != 0 || err != c.err {
					t.Errorf("Put(%v, %d, %d) = %d, %d, %d, %v, not %v", c.t, state, n, next, bits, value, err, c.err)
				}
			}
			for _, l := range [][]int{nil, {n}, make([]int, 100001)} {
				if state, bits, err := encode.Run(c.t, l); state != 0 || bits != 0 || err != c.err {
					t.Errorf("Run(%v, %d symbols) = %d, %d, %v, not %v", c.t, len(l), state, bits, err, c.err)
				}
			}
		}
	}
}

// P11.2: First and Put, from each state to each symbol.
func TestFirstPut(t *testing.T) {
	tables := handmade()
	for _, d := range small() {
		tables = append(tables, of(t, d))
	}
	for _, table := range tables {
		for symbol, cells := range table.States {
			if len(cells) == 0 {
				continue
			}
			if state, err := encode.First(table, symbol); state != cells[0] || err != api.OK {
				t.Errorf("First(%v, %d) = %d, %v", table, symbol, state, err)
			}
			for state := 0; state < 1<<table.Log; state += 1 + state/40 {
				next, bits, value := modelStep(table, state, symbol)
				gotNext, gotBits, gotValue, err := encode.Put(table, state, symbol)
				if gotNext != next || gotBits != bits || gotValue != value || err != api.OK {
					t.Fatalf("Put(%v, %d, %d) = %d, %d, %d, %v, not %d, %d, %d", table, state, symbol, gotNext, gotBits, gotValue, err, next, bits, value)
				}
			}
		}
	}
}

// P11.2: symbols without cells, and states that are none; these come first.
func TestFirstPutWrong(t *testing.T) {
	for _, table := range append(handmade(), of(t, samples.Of(5, 16, 8, 8)), of(t, samples.Of(5, 0, 31, 0, -1))) {
		states := []int{math.MinInt, -1, 1 << table.Log, 1<<table.Log + 1, math.MaxInt}
		for _, symbol := range outside(table) {
			if state, err := encode.First(table, symbol); state != 0 || err != api.ErrMissing {
				t.Errorf("First(%v, %d) = %d, %v", table, symbol, state, err)
			}
			for _, state := range []int{0, 1<<table.Log - 1} {
				if next, bits, value, err := encode.Put(table, state, symbol); next != 0 || bits != 0 || value != 0 || err != api.ErrMissing {
					t.Errorf("Put(%v, %d, %d) = %d, %d, %d, %v", table, state, symbol, next, bits, value, err)
				}
			}
		}
		for _, symbol := range append(outside(table), 0, 1, 2) {
			for _, state := range states {
				if next, bits, value, err := encode.Put(table, state, symbol); next != 0 || bits != 0 || value != 0 || err != api.ErrRange {
					t.Errorf("Put(%v, %d, %d) = %d, %d, %d, %v", table, state, symbol, next, bits, value, err)
				}
			}
		}
	}
}

// P11.3: Run, which goes from the last symbol to the first one; the list stays as it is.
func TestRun(t *testing.T) {
	for i, d := range samples.Right() {
		table := of(t, d)
		l := chanceList(d, 1+i%50)
		before := slices.Clone(l)
		state, sum := table.States[l[len(l)-1]][0], 0
		for at := len(l) - 2; at >= 0; at-- {
			next, bits, _ := modelStep(table, state, l[at])
			state = next
			sum += bits
		}
		if got, bits, err := encode.Run(table, l); got != state || bits != sum || err != api.OK {
			t.Errorf("Run(Of(%v), %v) = %d, %d, %v, not %d, %d", d, l, got, bits, err, state, sum)
		}
		if !slices.Equal(l, before) {
			t.Errorf("the list %v has become %v", before, l)
		}
	}
}

// P11.3: ErrRange of lists that are too long comes before ErrMissing.
func TestRunWrong(t *testing.T) {
	table := of(t, samples.Of(5, 16, 0, 8, 8))
	long := make([]int, 100001)
	for _, c := range []struct {
		l   []int
		err api.Errno
	}{
		{nil, api.ErrMissing}, {[]int{}, api.ErrMissing}, {[]int{1}, api.ErrMissing}, {[]int{4}, api.ErrMissing}, {[]int{-1}, api.ErrMissing},
		{[]int{0, 1, 0}, api.ErrMissing}, {[]int{1, 0, 0}, api.ErrMissing}, {[]int{0, 0, 1}, api.ErrMissing}, {[]int{0, math.MinInt}, api.ErrMissing}, {[]int{math.MaxInt, 0}, api.ErrMissing},
		{long, api.ErrRange}, {slices.Repeat([]int{1}, 100001), api.ErrRange}, {slices.Repeat([]int{1}, 100000), api.ErrMissing}, {slices.Repeat([]int{0}, 200000), api.ErrRange},
	} {
		if state, bits, err := encode.Run(table, c.l); state != 0 || bits != 0 || err != c.err {
			t.Errorf("Run(%d symbols) = %d, %d, %v, not %v", len(c.l), state, bits, err, c.err)
		}
	}
	// Half of the cells are those of the symbol 0, so each step has just one bit.
	if _, bits, err := encode.Run(table, long[1:]); bits != 99999 || err != api.OK {
		t.Errorf("Run(100,000 symbols): %d, %v", bits, err)
	}
}

// P11.3: Cells.
func TestCells(t *testing.T) {
	for _, d := range samples.Right() {
		cells, _ := decode.Of(d)
		want, _ := decode.Symbols(cells)
		if got, err := encode.Cells(of(t, d)); !slices.Equal(got, want) || err != api.OK {
			t.Errorf("Cells(Of(%v)) = %v, %v, not %v", d, got, err, want)
		}
	}
	for i, want := range [][]int{{0}, {2}, {255}, {1, 0}, {0, 0}, {2, 2, 2, 0}, {1, 2, 1, 2, 2, 0, 2, 1}} {
		if got, err := encode.Cells(handmade()[i]); !slices.Equal(got, want) || err != api.OK {
			t.Errorf("Cells(%v) = %v, %v, not %v", handmade()[i], got, err, want)
		}
	}
}

// The chapter's examples.
func TestExamples(t *testing.T) {
	d := samples.Of(5, 16, 8, 8)
	table := of(t, d)
	cells, _ := decode.Of(d)
	for symbol, want := range []int{16, 8, 8} {
		if got := len(table.States[symbol]); got != want {
			t.Errorf("the symbol %d has %d cells", symbol, got)
		}
	}
	for symbol, want := range []int{1, 2} {
		if state, err := encode.First(table, symbol); cells[state].Bits != want || err != api.OK {
			t.Errorf("First(%d) = %d, %v, the cell %v", symbol, state, err, cells[state])
		}
	}
	for _, c := range [][3]int{{0, 0, 1}, {31, 0, 1}, {0, 1, 2}} {
		if _, bits, _, err := encode.Put(table, c[0], c[1]); bits != c[2] || err != api.OK {
			t.Errorf("Put(%d, %d): %d bits, %v", c[0], c[1], bits, err)
		}
	}
	for _, l := range [][]int{{0}, {0, 1}} {
		if _, bits, err := encode.Run(table, l); bits != len(l)-1 || err != api.OK {
			t.Errorf("Run(%v): %d bits, %v", l, bits, err)
		}
	}
	three, err := encode.One(3)
	if three.Log != 0 || len(three.States) != 4 || !slices.Equal(three.States[3], []int{0}) || err != api.OK {
		t.Errorf("One(3) = %v, %v", three, err)
	}
	if next, bits, value, err := encode.Put(three, 0, 3); next != 0 || bits != 0 || value != 0 || err != api.OK {
		t.Errorf("Put(One(3), 0, 3) = %d, %d, %d, %v", next, bits, value, err)
	}
	if _, err := encode.First(table, 3); err != api.ErrMissing {
		t.Errorf("First(3): %v", err)
	}
	if _, _, _, err := encode.Put(table, 32, 0); err != api.ErrRange {
		t.Errorf("Put(32, 0): %v", err)
	}
	if err := encode.Check(api.EncodeTable{States: [][]int{{0}, {0}}}); err != api.ErrForm {
		t.Errorf("Check(two lists with the cell 0) = %v", err)
	}
}

// What is changed in a list of a table, or put behind it, does not show in other lists or tables.
func TestResultsShareNothing(t *testing.T) {
	d := samples.Of(5, 16, 0, 8, 8)
	table, other := of(t, d), of(t, d)
	for symbol, cells := range table.States {
		_ = append(cells, 1000)
		if len(cells) > 0 {
			cells[0] = -symbol - 1
		}
	}
	_ = append(table.States, []int{1000})
	want := modelOf(d)
	for symbol := range want.States {
		if len(want.States[symbol]) > 0 {
			want.States[symbol][0] = -symbol - 1
		}
	}
	if !same(table, want) || !same(other, modelOf(d)) || cap(table.States) != len(table.States) {
		t.Errorf("%v and %v share memory", table, other)
	}
	symbols, _ := encode.Cells(other)
	symbols[0] = 1000
	if again, _ := encode.Cells(other); again[0] == 1000 {
		t.Errorf("the cells %v have changed", again)
	}
}
