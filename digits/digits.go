// Package digits shows bits as characters 0 and 1, so that the tests of the layers can compare what is written bit by bit with plain text.
package digits

import "strings"

const byteBits = 8 // how many bits a byte has

// Of returns the lowest n bits of a number, the lowest one first.
func Of[T int | uint64 | byte](value T, n int) string {
	var b strings.Builder
	for range n {
		b.WriteByte("01"[value&1])
		value >>= 1
	}
	return b.String()
}

// Text returns the bits of a string, byte by byte.
func Text(s string) string {
	var b strings.Builder
	for i := range len(s) {
		b.WriteString(Of(s[i], byteBits))
	}
	return b.String()
}

// Number returns the number of bits, of which the first one is the lowest.
func Number(bits string) int {
	sum := 0
	for i := len(bits) - 1; i >= 0; i-- {
		sum = 2*sum + int(bits[i]-'0')
	}
	return sum
}

// Pack returns the bytes of bits; bits 0 fill the last one.
func Pack(bits string) string {
	bytes := make([]byte, (len(bits)+byteBits-1)/byteBits)
	for i := range bytes {
		bytes[i] = byte(Number(bits[byteBits*i : min(byteBits*(i+1), len(bits))]))
	}
	return string(bytes)
}
