package decode_test

import (
	"math"
	"math/bits"
	"slices"
	"testing"

	"cheesepress/api"
	"cheesepress/decode"
	"cheesepress/dist"
	"cheesepress/samples"
)

// P10.1: the decode table; the distribution stays as it is.
func TestOf(t *testing.T) {
	for _, d := range samples.Right() {
		before := slices.Clone(d.Probs)
		if got, want := of(t, d), modelOf(d); !slices.Equal(got, want) {
			t.Errorf("Of(%v) = %v, not %v", d, got, want)
		}
		if !slices.Equal(d.Probs, before) {
			t.Errorf("the probabilities %v have become %v", before, d.Probs)
		}
	}
	for _, c := range samples.Wrong() {
		if table, err := decode.Of(c.Dist); table != nil || err != c.Err {
			t.Errorf("Of(%v) = %v, %v, not %v", c.Dist, table, err, c.Err)
		}
	}
}

// P10.1: the predefined distribution of literal lengths, whose table RFC 8878 shows.
func TestPredefined(t *testing.T) {
	d, _ := dist.Predefined(api.KindLits)
	want := [][3]int{
		{0, 4, 0}, {0, 4, 16}, {1, 5, 32}, {3, 5, 0}, {4, 5, 0}, {6, 5, 0}, {7, 5, 0}, {9, 5, 0},
		{10, 5, 0}, {12, 5, 0}, {14, 6, 0}, {16, 5, 0}, {18, 5, 0}, {19, 5, 0}, {21, 5, 0}, {22, 5, 0},
		{24, 5, 0}, {25, 5, 32}, {26, 5, 0}, {27, 6, 0}, {29, 6, 0}, {31, 6, 0}, {0, 4, 32}, {1, 4, 0},
		{2, 5, 0}, {4, 5, 32}, {5, 5, 0}, {7, 5, 32}, {8, 5, 0}, {10, 5, 32}, {11, 5, 0}, {13, 6, 0},
		{16, 5, 32}, {17, 5, 0}, {19, 5, 32}, {20, 5, 0}, {22, 5, 32}, {23, 5, 0}, {25, 4, 0}, {25, 4, 16},
		{26, 5, 32}, {28, 6, 0}, {30, 6, 0}, {0, 4, 48}, {1, 4, 16}, {2, 5, 32}, {3, 5, 32}, {5, 5, 32},
		{6, 5, 32}, {8, 5, 32}, {9, 5, 32}, {11, 5, 32}, {12, 5, 32}, {15, 6, 0}, {17, 5, 32}, {18, 5, 32},
		{20, 5, 32}, {21, 5, 32}, {23, 5, 32}, {24, 5, 32}, {35, 6, 0}, {34, 6, 0}, {33, 6, 0}, {32, 6, 0},
	}
	for state, cell := range of(t, d) {
		if got := [3]int{cell.Symbol, cell.Bits, cell.Base}; got != want[state] {
			t.Errorf("the cell %d of Of(predefined) is %v, not %v", state, got, want[state])
		}
	}
}

// P10.1: the table of each symbol, and of numbers that are none.
func TestOne(t *testing.T) {
	for _, symbol := range []int{math.MinInt, -256, -1, 0, 1, 7, 127, 128, 254, 255, 256, 257, math.MaxInt} {
		table, err := decode.One(symbol)
		if symbol >= 0 && symbol <= 255 {
			if !slices.Equal(table, []api.Cell{{Symbol: symbol}}) || err != api.OK || decode.Check(table) != api.OK {
				t.Errorf("One(%d) = %v, %v", symbol, table, err)
			}
		} else if table != nil || err != api.ErrRange {
			t.Errorf("One(%d) = %v, %v", symbol, table, err)
		}
	}
}

// P10.1: Check of tables that are right, also of those in which 1 and -1 cannot be told apart.
func TestCheckRight(t *testing.T) {
	for _, d := range slices.Concat(samples.Right(), signs(2), signs(4), signs(7)) {
		table := of(t, d)
		before := slices.Clone(table)
		if err := decode.Check(table); err != api.OK || !slices.Equal(table, before) {
			t.Errorf("Check(Of(%v)) = %v", d, err)
		}
	}
}

// P10.1, P1: the error of Check, which comes first in all functions with a table.
func TestCheckWrong(t *testing.T) {
	for _, table := range wrong() {
		before := slices.Clone(table)
		if err := decode.Check(table); err != api.ErrForm {
			t.Errorf("Check(%v) = %v", table, err)
		}
		if log, err := decode.Log(table); log != 0 || err != api.ErrForm {
			t.Errorf("Log(%v) = %d, %v", table, log, err)
		}
		if l, err := decode.Symbols(table); l != nil || err != api.ErrForm {
			t.Errorf("Symbols(%v) = %v, %v", table, l, err)
		}
		for _, n := range []int{math.MinInt, -1, 0, 1, 16, 255, 256, math.MaxInt} {
			if state, err := decode.First(table, n); state != 0 || err != api.ErrForm {
				t.Errorf("First(%v, %d) = %d, %v", table, n, state, err)
			}
			if state, err := decode.Next(table, n, 0); state != 0 || err != api.ErrForm {
				t.Errorf("Next(%v, %d, 0) = %d, %v", table, n, state, err)
			}
			if state, err := decode.Next(table, 0, n); state != 0 || err != api.ErrForm {
				t.Errorf("Next(%v, 0, %d) = %d, %v", table, n, state, err)
			}
		}
		if !slices.Equal(table, before) {
			t.Errorf("the table %v has become %v", before, table)
		}
	}
}

// P10.1: Check of tables in which two symbols are exchanged, against one that tries all distributions.
func TestCheckExchanged(t *testing.T) {
	right, spoilt := 0, 0
	for _, d := range slices.Concat(small()[:30], signs(3), signs(4)) {
		for a := range 1 << d.Log {
			for _, b := range []int{0, 1, 1<<d.Log - 1, 1<<d.Log - 2, (a + 1) % (1 << d.Log)} {
				symbols, _ := decode.Symbols(of(t, d))
				symbols[a], symbols[b] = symbols[b], symbols[a]
				table, want := recounted(symbols), api.ErrForm
				if modelRight(table) {
					want = api.OK
					right++
				} else {
					spoilt++
				}
				if err := decode.Check(table); err != want {
					t.Errorf("Check(%v) = %v, not %v", table, err, want)
				}
			}
		}
	}
	if right < 100 || spoilt < 100 {
		t.Errorf("%d tables were right, and %d were not", right, spoilt)
	}
}

// P10.2: Log and Symbols.
func TestLogSymbols(t *testing.T) {
	for _, d := range samples.Right() {
		table := of(t, d)
		if log, err := decode.Log(table); log != d.Log || err != api.OK {
			t.Errorf("Log(Of(%v)) = %d, %v", d, log, err)
		}
		symbols, err := decode.Symbols(table)
		if len(symbols) != len(table) || err != api.OK {
			t.Fatalf("Symbols(Of(%v)) = %v, %v", d, symbols, err)
		}
		for state, symbol := range symbols {
			if symbol != table[state].Symbol {
				t.Errorf("Symbols(Of(%v)) = %v", d, symbols)
			}
		}
	}
	for _, symbol := range []int{0, 1, 255} {
		table := one(t, symbol)
		if log, err := decode.Log(table); log != 0 || err != api.OK {
			t.Errorf("Log(One(%d)) = %d, %v", symbol, log, err)
		}
		if l, err := decode.Symbols(table); !slices.Equal(l, []int{symbol}) || err != api.OK {
			t.Errorf("Symbols(One(%d)) = %v, %v", symbol, l, err)
		}
	}
}

// P10.2: Next of each state, within and beside the bounds of v.
func TestNext(t *testing.T) {
	tables := [][]api.Cell{one(t, 0), one(t, 255), of(t, samples.Of(12, 4096))[:4096]}
	for _, d := range small() {
		tables = append(tables, of(t, d))
	}
	for _, table := range tables {
		for _, state := range []int{0, 1, 2, len(table) / 2, len(table) - 2, len(table) - 1, len(table), len(table) + 1, -1, math.MinInt, math.MaxInt} {
			values := []int{math.MinInt, -1, 0, 1, 2, 3, 4, 7, 8, 15, 16, 31, 32, 63, 64, math.MaxInt}
			for _, v := range values {
				want, err := 0, api.ErrRange
				if state >= 0 && state < len(table) && v >= 0 && bits.Len(uint(v)) <= table[state].Bits {
					want, err = table[state].Base+v, api.OK
				}
				if to, e := decode.Next(table, state, v); to != want || e != err {
					t.Fatalf("Next(%v, %d, %d) = %d, %v, not %d, %v", table, state, v, to, e, want, err)
				}
			}
		}
	}
}

// P10.2: First of each symbol, and of numbers that have no cell.
func TestFirst(t *testing.T) {
	tables := [][]api.Cell{one(t, 0), one(t, 1), one(t, 255)}
	for _, d := range small() {
		tables = append(tables, of(t, d))
	}
	for _, table := range tables {
		symbols, _ := decode.Symbols(table)
		for _, symbol := range []int{math.MinInt, -256, -1, 0, 1, 2, 3, 4, 30, 31, 32, 33, 254, 255, 256, math.MaxInt} {
			want, err := slices.Index(symbols, symbol), api.OK
			if want < 0 {
				want, err = 0, api.ErrMissing
			}
			if state, e := decode.First(table, symbol); state != want || e != err {
				t.Errorf("First(%v, %d) = %d, %v, not %d, %v", table, symbol, state, e, want, err)
			}
		}
	}
}

// The chapter's examples.
func TestExamples(t *testing.T) {
	table := of(t, samples.Of(5, 20, 10, -1, 1))
	if log, err := decode.Log(table); log != 5 || err != api.OK {
		t.Errorf("Log = %d, %v", log, err)
	}
	if symbols, err := decode.Symbols(table); symbols[31] != 2 || err != api.OK {
		t.Errorf("Symbols = %v, %v", symbols, err)
	}
	for symbol, want := range map[int]api.Cell{0: {Symbol: 0, Bits: 1, Base: 8}, 3: {Symbol: 3, Bits: 5, Base: 0}} {
		if state, err := decode.First(table, symbol); table[state] != want || err != api.OK {
			t.Errorf("First(%d) = %d, %v, the cell %v", symbol, state, err, table[state])
		}
	}
	if state, err := decode.First(table, 4); state != 0 || err != api.ErrMissing {
		t.Errorf("First(4) = %d, %v", state, err)
	}
	seven := one(t, 7)
	if !slices.Equal(seven, []api.Cell{{Symbol: 7, Bits: 0, Base: 0}}) || next(t, seven, 0, 0) != 0 {
		t.Errorf("One(7) = %v", seven)
	}
	for _, c := range [][2]int{{0, 1}, {1, 0}} {
		if state, err := decode.Next(seven, c[0], c[1]); state != 0 || err != api.ErrRange {
			t.Errorf("Next(One(7), %d, %d) = %d, %v", c[0], c[1], state, err)
		}
	}
	if err := decode.Check(nil); err != api.ErrForm {
		t.Errorf("Check(none) = %v", err)
	}
	if table, err := decode.One(256); table != nil || err != api.ErrRange {
		t.Errorf("One(256) = %v, %v", table, err)
	}
}

// What is changed in a result, or put behind it, does not show in other results; nothing is kept of an argument.
func TestResultsShareNothing(t *testing.T) {
	d := samples.Of(5, 16, 16)
	first, second := of(t, d), of(t, d)
	first[0].Bits = 9
	_ = append(first, api.Cell{Symbol: 9})
	symbols, _ := decode.Symbols(second)
	symbols[1] = 9
	if cap(first) != len(first) || !slices.Equal(second, modelOf(d)) {
		t.Errorf("%v and %v share memory", first, second)
	}
	lone := one(t, 3)
	lone[0].Symbol = 9
	if again := one(t, 3); again[0].Symbol != 3 {
		t.Errorf("One(3) = %v", again)
	}
}
