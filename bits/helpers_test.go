package bits_test

import (
	"math"
	"strings"
	"testing"

	"cheesepress/api"
	"cheesepress/bits"
)

// widths are numbers of bits: all that are allowed, and others.
func widths() []int {
	list := []int{math.MinInt, math.MinInt + 1, -64, -32, -8, -1}
	for n := range 34 {
		list = append(list, n)
	}
	return append(list, 63, 64, 65, 128, 256, math.MaxInt-1, math.MaxInt)
}

func isWidth(n int) bool {
	return n >= 0 && n <= 32
}

// values are numbers at which a bound of a width lies.
func values() []int {
	list := []int{math.MinInt, math.MinInt + 1, -256, -2, -1, 0, 5, 100, 0x5a5a5a5a, 0x80000001, math.MaxInt}
	for n := range 63 {
		list = append(list, 1<<n, 1<<n-1)
	}
	return list
}

// digits are the lowest bits of a number as characters 0 and 1, the lowest one first.
func digits(value, n int) string {
	var b strings.Builder
	for range n {
		b.WriteByte("01"[value&1])
		value >>= 1
	}
	return b.String()
}

// digitsOf are the bits of a string as characters 0 and 1, in their order.
func digitsOf(s string) string {
	var b strings.Builder
	for i := range len(s) {
		b.WriteString(digits(int(s[i]), 8))
	}
	return b.String()
}

// numberOf is the sum of bits, each times 1 << its place.
func numberOf(digits string) int {
	sum, times := 0, 1
	for i := range len(digits) {
		if digits[i] == '1' {
			sum += times
		}
		times *= 2
	}
	return sum
}

// written are the bits of a writer.
func written(w api.BitWriter) string {
	return digitsOf(w.S) + digits(w.Part, w.N)
}

// zeros is a string of n bytes 0.
func zeros(n int) string {
	return string(make([]byte, n))
}

// put writes bits where that must succeed.
func put(t *testing.T, w api.BitWriter, n, value int) api.BitWriter {
	t.Helper()
	next, err := bits.Put(w, n, value)
	if err != api.OK {
		t.Fatalf("Put(%v, %d, %d): %v", w, n, value, err)
	}
	return next
}

// writeDigits makes a writer of bits as characters, bit by bit.
func writeDigits(t *testing.T, digits string) api.BitWriter {
	t.Helper()
	var w api.BitWriter
	for i := range len(digits) {
		w = put(t, w, 1, int(digits[i]-'0'))
	}
	return w
}

// short shows a writer without its many bytes.
func short(w api.BitWriter) [3]int {
	return [3]int{len(w.S), w.Part, w.N}
}
