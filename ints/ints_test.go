package ints_test

import (
	"math"
	"math/big"
	"math/bits"
	"testing"

	"cheesepress/api"
	"cheesepress/ints"
)

// edges are numbers at which a bound of some type or of the document lies.
func edges() []int {
	list := []int{math.MinInt, math.MinInt + 1, -api.MaxCount - 1, -api.MaxCount, -256, -8, -1, 0, 3, 5, 6, 7, 9, 300, 65535}
	for h := range 63 {
		list = append(list, 1<<h, 1<<h-1, 1<<h+1)
	}
	return append(list, math.MaxInt-1, math.MaxInt)
}

// P1.1: the definition of High, Bits and Up, tried for every power.
func TestHighBitsUp(t *testing.T) {
	numbers := edges()
	for n := -70; n <= 5000; n++ {
		numbers = append(numbers, n)
	}
	for _, n := range numbers {
		high, up := -1, 63
		for h := range 63 {
			if 1<<h <= n {
				high = h
			}
			if up == 63 && 1<<h >= n {
				up = h
			}
		}
		if got := ints.High(n); got != high {
			t.Errorf("High(%d) = %d, not %d", n, got, high)
		}
		if got := ints.Bits(n); got != high+1 {
			t.Errorf("Bits(%d) = %d, not %d", n, got, high+1)
		}
		if got := ints.Up(n); got != up {
			t.Errorf("Up(%d) = %d, not %d", n, got, up)
		}
	}
}

// P1.1: the chapter's examples, and the greatest numbers.
func TestHighBitsUpExamples(t *testing.T) {
	for _, c := range []struct {
		name string
		f    func(int) int
		n    int
		want int
	}{
		{"High", ints.High, 1, 0}, {"High", ints.High, 255, 7}, {"High", ints.High, 256, 8}, {"High", ints.High, 0, -1},
		{"High", ints.High, -1, -1}, {"High", ints.High, math.MinInt, -1}, {"High", ints.High, math.MaxInt, 62},
		{"Bits", ints.Bits, 255, 8}, {"Bits", ints.Bits, -5, 0}, {"Bits", ints.Bits, 0, 0}, {"Bits", ints.Bits, math.MaxInt, 63},
		{"Up", ints.Up, 1, 0}, {"Up", ints.Up, 5, 3}, {"Up", ints.Up, 8, 3}, {"Up", ints.Up, 2, 1},
		{"Up", ints.Up, math.MinInt, 0}, {"Up", ints.Up, 1 << 62, 62}, {"Up", ints.Up, 1<<62 + 1, 63}, {"Up", ints.Up, math.MaxInt, 63},
	} {
		if got := c.f(c.n); got != c.want {
			t.Errorf("%s(%d) = %d, not %d", c.name, c.n, got, c.want)
		}
	}
}

// P1.2: Low is the rest by a power of two, for every number of bits.
func TestLow(t *testing.T) {
	for _, n := range []uint64{0, 1, 2, 255, 256, 300, 1 << 32, 1<<63 - 1, 1 << 63, 0xfedcba9876543210, math.MaxUint64} {
		for size := range 65 {
			power := new(big.Int).Lsh(big.NewInt(1), uint(size))
			want := new(big.Int).Mod(new(big.Int).SetUint64(n), power).Uint64()
			if got, err := ints.Low(n, size); got != want || err != api.OK {
				t.Errorf("Low(%d, %d) = %d, %v, not %d", n, size, got, err, want)
			}
		}
	}
}

// P1.2: Low refuses numbers of bits that are not from 0 to 64.
func TestLowRange(t *testing.T) {
	for _, size := range edges() {
		if size >= 0 && size <= 64 {
			continue
		}
		if got, err := ints.Low(300, size); got != 0 || err != api.ErrRange {
			t.Errorf("Low(300, %d) = %d, %v", size, got, err)
		}
	}
}

// P1.5: a number lies between the powers of its bits, and Up is High or one more.
func TestPowersAroundNumber(t *testing.T) {
	for _, n := range edges() {
		if n < 1 {
			continue
		}
		number, high := big.NewInt(int64(n)), ints.High(n)
		if power(high).Cmp(number) > 0 || number.Cmp(power(ints.Bits(n))) >= 0 {
			t.Errorf("%d is not from 2^%d to below 2^%d", n, high, ints.Bits(n))
		}
		want := high
		if bits.OnesCount(uint(n)) > 1 {
			want++
		}
		if up := ints.Up(n); up != want {
			t.Errorf("Up(%d) = %d, High %d", n, up, high)
		}
	}
}

func power(h int) *big.Int {
	return new(big.Int).Lsh(big.NewInt(1), uint(h))
}
