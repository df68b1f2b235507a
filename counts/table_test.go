package counts_test

import (
	"math"
	"slices"
	"strings"
	"testing"

	"cheesepress/api"
	"cheesepress/counts"
)

// P6.2: Bytes counts as strings.Count does, for each of 256 bytes.
func TestBytes(t *testing.T) {
	for _, s := range texts() {
		got, err := counts.Bytes(s)
		if err != api.OK || len(got) != 256 {
			t.Fatalf("Bytes(%x): %d counts, %v", s, len(got), err)
		}
		for b := range 256 {
			if want := strings.Count(s, string([]byte{byte(b)})); got[b] != want {
				t.Errorf("Bytes(%x): %d times %x, not %d times", s, got[b], b, want)
			}
		}
	}
}

// P6.2: an input may have MaxInput bytes, and no more.
func TestBytesLong(t *testing.T) {
	long := strings.Repeat("a", api.MaxInput)
	if got := bytes(t, long); got['a'] != api.MaxInput {
		t.Errorf("Bytes of MaxInput bytes: %d", got['a'])
	}
	if got, err := counts.Bytes(long + "a"); len(got) != 0 || err != api.ErrLong {
		t.Errorf("Bytes of more than MaxInput bytes: %v, %v", got, err)
	}
}

// P6.2: Symbols, for each greatest symbol, and lists that are within it or not.
func TestSymbols(t *testing.T) {
	lists := [][]int{nil, {0}, {1}, {5}, {1, 3, 1}, {255}, {255, 0, 255}, {256}, {-1}, {0, 0, -1}, {300, 0}, {math.MinInt}, {math.MaxInt}}
	for _, s := range texts() {
		lists = append(lists, symbolsOf(s))
	}
	for _, most := range []int{0, 1, 2, 3, 4, 5, 127, 254, 255} {
		for _, l := range lists {
			got, err := counts.Symbols(l, most)
			if len(l) > 0 && (slices.Min(l) < 0 || slices.Max(l) > most) {
				if len(got) != 0 || err != api.ErrRange {
					t.Errorf("Symbols(%v, %d) = %v, %v", l, most, got, err)
				}
				continue
			}
			want := make([]int, most+1)
			for _, symbol := range l {
				want[symbol]++
			}
			if !slices.Equal(got, want) || err != api.OK {
				t.Errorf("Symbols(%v, %d) = %v, %v", l, most, got, err)
			}
		}
	}
}

// P6.2, P1: the bounds of most and of the list; most is checked first, and the symbols last.
func TestSymbolsErrors(t *testing.T) {
	for _, most := range []int{math.MinInt, -256, -1, 256, 257, math.MaxInt} {
		for _, l := range [][]int{nil, {0}, {-1}, make([]int, api.MaxInput+1)} {
			if got, err := counts.Symbols(l, most); len(got) != 0 || err != api.ErrRange {
				t.Errorf("Symbols of %d symbols up to %d = %v, %v", len(l), most, got, err)
			}
		}
	}
	for _, symbol := range []int{0, 9, -1} {
		if got, err := counts.Symbols(full(api.MaxInput+1, symbol), 5); len(got) != 0 || err != api.ErrLong {
			t.Errorf("Symbols of more than MaxInput times %d = %v, %v", symbol, got, err)
		}
	}
	if got, err := counts.Symbols(full(api.MaxInput, 5), 5); !slices.Equal(got, []int{0, 0, 0, 0, 0, api.MaxInput}) || err != api.OK {
		t.Errorf("Symbols of MaxInput symbols = %v, %v", got, err)
	}
}

// P6.4, P6.7: Same, for strings of one byte and of several.
func TestSame(t *testing.T) {
	for _, s := range texts() {
		want := len(s) > 0
		for i := range len(s) {
			want = want && s[i] == s[0]
		}
		if got := counts.Same(s); got != want {
			t.Errorf("Same(%x) = %v", s, got)
		}
		if _, only, err := counts.Only(bytes(t, s)); only != want || err != api.OK {
			t.Errorf("Only of the counts of %x: %v, %v", s, only, err)
		}
	}
	for _, n := range []int{api.MaxInput, api.MaxInput + 1} {
		s := strings.Repeat("\xfe", n)
		if !counts.Same(s) || counts.Same(s+"\xff") || counts.Same("\xff"+s) {
			t.Errorf("Same of %d bytes is wrong", n)
		}
	}
}

// P6.5: counts of strings that stand one behind the other, and the total of counts.
func TestCountsAreAdded(t *testing.T) {
	for _, a := range texts() {
		if n, err := counts.Total(bytes(t, a)); n != len(a) || err != api.OK {
			t.Errorf("Total of the counts of %x = %d, %v", a, n, err)
		}
		for _, b := range texts() {
			both, first, second := bytes(t, a+b), bytes(t, a), bytes(t, b)
			for symbol := range both {
				if both[symbol] != first[symbol]+second[symbol] {
					t.Errorf("%x and %x have %d times %d", a, b, both[symbol], symbol)
				}
			}
		}
	}
}

// P6.6: the order of bytes and symbols does not matter.
func TestOrder(t *testing.T) {
	for _, s := range texts() {
		turned := []byte(s)
		slices.Reverse(turned)
		ordered := slices.Sorted(slices.Values([]byte(s)))
		want := bytes(t, s)
		for _, other := range []string{string(turned), string(ordered)} {
			if got := bytes(t, other); !slices.Equal(got, want) {
				t.Errorf("Bytes(%x) and Bytes(%x) differ", s, other)
			}
			if got, err := counts.Symbols(symbolsOf(other), 255); !slices.Equal(got, want) || err != api.OK {
				t.Errorf("Symbols of the bytes of %x and Bytes(%x) differ", other, s)
			}
		}
	}
}

// What is appended to counts, or changed in them, does not show in others.
func TestCountsShareNothing(t *testing.T) {
	l := []int{1, 3, 1}
	got, _ := counts.Symbols(l, 4)
	_ = append(got, 9)
	if cap(got) != len(got) || !slices.Equal(l, []int{1, 3, 1}) {
		t.Errorf("Symbols has room for %d counts", cap(got))
	}
	from := []int{4, 5}
	half, _ := counts.Halve(from)
	half[0] = 100
	if cap(half) != 2 || !slices.Equal(from, []int{4, 5}) {
		t.Errorf("Halve has changed its counts: %v", from)
	}
}
