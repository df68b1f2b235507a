package bits_test

import (
	"math"
	"testing"

	"cheesepress/api"
	"cheesepress/bits"
	"cheesepress/digits"
)

// widths are numbers of bits: all that are allowed, and others.
func widths() []int {
	list := []int{math.MinInt, math.MinInt + 1, -64, -32, -8, -1}
	for n := range 34 {
		list = append(list, n)
	}
	return append(list, 63, 64, 65, 128, 256, math.MaxInt-1, math.MaxInt)
}

func isWidth(n int) bool {
	return n >= 0 && n <= 32
}

// values are numbers at which a bound of a width lies.
func values() []int {
	list := []int{math.MinInt, math.MinInt + 1, -256, -2, -1, 0, 5, 100, 0x5a5a5a5a, 0x80000001, math.MaxInt}
	for n := range 63 {
		list = append(list, 1<<n, 1<<n-1)
	}
	return list
}

// written are the bits of a writer.
func written(w api.BitWriter) string {
	return digits.Text(w.S) + digits.Of(w.Part, w.N)
}

// zeros is a string of n bytes 0.
func zeros(n int) string {
	return string(make([]byte, n))
}

// put writes bits where that must succeed.
func put(t *testing.T, w api.BitWriter, n, value int) api.BitWriter {
	t.Helper()
	next, err := bits.Put(w, n, value)
	if err != api.OK {
		t.Fatalf("Put(%v, %d, %d): %v", w, n, value, err)
	}
	return next
}

// writeDigits makes a writer of bits as characters, bit by bit.
func writeDigits(t *testing.T, text string) api.BitWriter {
	t.Helper()
	var w api.BitWriter
	for i := range len(text) {
		w = put(t, w, 1, int(text[i]-'0'))
	}
	return w
}

// short shows a writer without its many bytes.
func short(w api.BitWriter) [3]int {
	return [3]int{len(w.S), w.Part, w.N}
}
