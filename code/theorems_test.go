package code_test

import (
	"slices"
	"strings"
	"testing"

	"cheesepress/api"
	"cheesepress/code"
	"cheesepress/digits"
	"cheesepress/samples"
)

// texts are the codes of symbols as characters 0 and 1, the highest bit first; those of symbols without codes are empty.
func texts(list []api.Code) []string {
	all := make([]string, len(list))
	for symbol, c := range list {
		bits := []byte(digits.Of(c.Value, c.Bits))
		slices.Reverse(bits)
		all[symbol] = string(bits)
	}
	return all
}

// P16.4: no code is the beginning of another one, and the symbol of a cell is that whose code is the cell's highest bits.
func TestPrefixes(t *testing.T) {
	for _, lengths := range samples.Lengths() {
		all := texts(codes(t, lengths))
		for a, one := range all {
			for b, other := range all {
				if a != b && one != "" && strings.HasPrefix(other, one) {
					t.Errorf("Codes(%v): %s of %d begins with %s of %d", lengths, other, b, one, a)
				}
			}
		}
		most := slices.Max(lengths)
		for number, cell := range table(t, lengths) {
			highest := texts([]api.Code{{Bits: most, Value: number}})[0]
			if text := all[cell.Symbol]; text == "" || !strings.HasPrefix(highest, text) || cell.Bits != len(text) {
				t.Errorf("Table(%v): the cell %s has the symbol %d, with the code %s", lengths, highest, cell.Symbol, text)
			}
		}
	}
}

// P16.5: each cell has a symbol; those of a symbol are 1 << (m - n), one directly behind the other.
func TestCellsOfSymbols(t *testing.T) {
	for _, lengths := range samples.Lengths() {
		most := slices.Max(lengths)
		cells := table(t, lengths)
		if len(cells) != 1<<most {
			t.Errorf("Table(%v) has %d cells", lengths, len(cells))
		}
		have, first, last := make([]int, len(lengths)), make([]int, len(lengths)), make([]int, len(lengths))
		for number, cell := range cells {
			if have[cell.Symbol] == 0 {
				first[cell.Symbol] = number
			}
			last[cell.Symbol] = number
			have[cell.Symbol]++
		}
		for symbol, length := range lengths {
			want := 0
			if length > 0 {
				want = 1 << (most - length)
			}
			if have[symbol] != want || want > 0 && last[symbol]-first[symbol] != want-1 {
				t.Errorf("Table(%v): %d has %d cells, from %d to %d", lengths, symbol, have[symbol], first[symbol], last[symbol])
			}
		}
	}
}

// P16.6: longer codes have less cells, and come first; of equal lengths codes rise with the symbols, by 1.
func TestOrder(t *testing.T) {
	for _, lengths := range samples.Lengths() {
		cells := table(t, lengths)
		for number := 1; number < len(cells); number++ {
			if cells[number].Bits > cells[number-1].Bits {
				t.Errorf("Table(%v): the cell %d has more bits than the one before it", lengths, number)
			}
		}
		list := codes(t, lengths)
		before := map[int]int{}
		for symbol, c := range list {
			if c.Bits == 0 {
				continue
			}
			if other, there := before[c.Bits]; there && c.Value != list[other].Value+1 {
				t.Errorf("Codes(%v): %d has %d, and %d has %d", lengths, other, list[other].Value, symbol, c.Value)
			}
			before[c.Bits] = symbol
		}
	}
}

// P16.7: Bits of two lists of counts together are the sum of both.
func TestSumOfBits(t *testing.T) {
	added := 0
	for _, lengths := range samples.Lengths() {
		list := countsFor(lengths)
		for i, a := range list {
			b := list[(i+1)%len(list)]
			both := make([]int, max(len(a), len(b)))
			for symbol, count := range a {
				both[symbol] += count / 2
			}
			half := slices.Clone(both[:len(a)])
			other := make([]int, len(b))
			for symbol, count := range b {
				other[symbol] = count - count/2
				both[symbol] += other[symbol]
			}
			n, err := code.Bits(lengths, both)
			if err != api.OK {
				continue
			}
			added++
			if sum := bits(t, lengths, half) + bits(t, lengths, other); n != sum {
				t.Errorf("Bits(%v, %v) = %d, not %d", lengths, both, n, sum)
			}
		}
	}
	if added < 1000 {
		t.Errorf("just %d sums were compared", added)
	}
}
