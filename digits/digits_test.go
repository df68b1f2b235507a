package digits_test

import (
	"math"
	"strings"
	"testing"

	"cheesepress/digits"
)

func TestOf(t *testing.T) {
	for _, c := range []struct {
		value, n int
		want     string
	}{{0, 0, ""}, {6, 3, "011"}, {6, 5, "01100"}, {6, 2, "01"}, {-1, 4, "1111"}, {math.MinInt, 64, strings.Repeat("0", 63) + "1"}} {
		if got := digits.Of(c.value, c.n); got != c.want {
			t.Errorf("Of(%d, %d) = %s", c.value, c.n, got)
		}
		if got := digits.Of(uint64(c.value), c.n); got != c.want {
			t.Errorf("Of(%d, %d) = %s", uint64(c.value), c.n, got)
		}
	}
}

func TestTextPack(t *testing.T) {
	for _, c := range []struct{ s, bits string }{{"", ""}, {"\x01", "10000000"}, {"\x10\x3f", "0000100011111100"}, {"\x80\x00", "0000000100000000"}} {
		if got := digits.Text(c.s); got != c.bits {
			t.Errorf("Text(%x) = %s", c.s, got)
		}
		if got := digits.Pack(c.bits); got != c.s {
			t.Errorf("Pack(%s) = %x", c.bits, got)
		}
		if got := digits.Pack(strings.TrimRight(c.bits, "0")); got != strings.TrimRight(c.s, "\x00") {
			t.Errorf("Pack of %s without its end = %x", c.bits, got)
		}
	}
}

func TestNumber(t *testing.T) {
	for bits, want := range map[string]int{"": 0, "0": 0, "1": 1, "011": 6, "0110": 6, strings.Repeat("1", 63): math.MaxInt} {
		if got := digits.Number(bits); got != want {
			t.Errorf("Number(%s) = %d", bits, got)
		}
	}
}
