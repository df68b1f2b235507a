package back_test

import (
	"math"
	"strings"
	"testing"

	"cheesepress/api"
	"cheesepress/back"
	"cheesepress/digits"
)

// widths are numbers of bits: all that are allowed, and others.
func widths() []int {
	list := []int{math.MinInt, math.MinInt + 1, -64, -32, -8, -1}
	for n := range 34 {
		list = append(list, n)
	}
	return append(list, 63, 64, 65, 128, 256, math.MaxInt-1, math.MaxInt)
}

func isWidth(n int) bool {
	return n >= 0 && n <= 32
}

// values are numbers at which a bound of a width lies.
func values() []uint64 {
	list := []uint64{0, 5, 33, 0x5a5a5a5a, 0x80000001, math.MaxUint64}
	for n := range 64 {
		list = append(list, 1<<n, 1<<n-1)
	}
	return list
}

// inside are the bits of a stream as characters, without its padding.
func inside(stream string) string {
	all := digits.Text(stream)
	return all[:strings.LastIndexByte(all, '1')]
}

// fromEnd is the number of the last n characters, the last one of which is the highest bit; characters that are missing count as 0.
func fromEnd(bits string, n int) uint64 {
	var sum uint64
	for i := range n {
		sum *= 2
		if at := len(bits) - 1 - i; at >= 0 && bits[at] == '1' {
			sum++
		}
	}
	return sum
}

// written are the bits of a writer.
func written(w api.BackWriter) string {
	return digits.Text(w.S) + digits.Of(uint64(w.Part), w.N)
}

// put writes bits where that must succeed.
func put(t *testing.T, w api.BackWriter, n int, value uint64) api.BackWriter {
	t.Helper()
	next, err := back.Put(w, n, value)
	if err != api.OK {
		t.Fatalf("Put(%v, %d, %d): %v", short(w), n, value, err)
	}
	return next
}

// done ends a stream where that must succeed.
func done(t *testing.T, w api.BackWriter) string {
	t.Helper()
	s, err := back.Done(w)
	if err != api.OK {
		t.Fatalf("Done(%v): %v", short(w), err)
	}
	return s
}

// read makes a reader where that must succeed.
func read(t *testing.T, s string) api.BackReader {
	t.Helper()
	r, err := back.Read(s)
	if err != api.OK {
		t.Fatalf("Read(%x): %v", s, err)
	}
	return r
}

// writeDigits makes a writer of bits as characters, bit by bit.
func writeDigits(t *testing.T, digits string) api.BackWriter {
	t.Helper()
	var w api.BackWriter
	for i := range len(digits) {
		w = put(t, w, 1, uint64(digits[i]-'0'))
	}
	return w
}

// zeros is a string of n bytes 0.
func zeros(n int) string {
	return string(make([]byte, n))
}

// short shows a writer without its many bytes.
func short(w api.BackWriter) [3]int {
	return [3]int{len(w.S), w.Part, w.N}
}
