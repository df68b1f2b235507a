package dist_test

import (
	"slices"
	"testing"

	"cheesepress/api"
	"cheesepress/digits"
	"cheesepress/dist"
	"cheesepress/samples"
)

// P8.2: the description, and how many bits it has.
func TestWriteBits(t *testing.T) {
	for _, d := range samples.Right() {
		before := slices.Clone(d.Probs)
		want := modelWrite(d)
		if s, err := dist.Write(d); s != digits.Pack(want) || err != api.OK {
			t.Errorf("Write(%v) = %x, %v, not %x", d, s, err, digits.Pack(want))
		}
		if n, err := dist.Bits(d); n != len(want) || err != api.OK {
			t.Errorf("Bits(%v) = %d, %v, not %d", d, n, err, len(want))
		}
		if !slices.Equal(d.Probs, before) {
			t.Errorf("the probabilities %v have become %v", before, d.Probs)
		}
	}
}

// P8.2, P1: what is not right has no description.
func TestWriteWrong(t *testing.T) {
	for _, c := range samples.Wrong() {
		if s, err := dist.Write(c.Dist); s != "" || err != c.Err {
			t.Errorf("Write(%v) = %x, %v", c.Dist, s, err)
		}
		if n, err := dist.Bits(c.Dist); n != 0 || err != c.Err {
			t.Errorf("Bits(%v) = %d, %v", c.Dist, n, err)
		}
	}
}

// P8.2: behind a zero, those that follow are told in groups of three.
func TestZeros(t *testing.T) {
	for zeros, want := range []string{"00", "10", "01", "1100", "1110", "1101", "111100"} {
		// The Log in 4 bits; 0 is the value 1 in 5 bits; 32 is the value 33, and 30 more in 6 bits.
		bits := "0000" + "10000" + want + "111111"
		d := samples.Of(5, samples.Behind(samples.Full(zeros+1, 0), 32)...)
		if s := written(d); s != digits.Pack(bits) {
			t.Errorf("Write(%v) = %x, not %x", d, s, digits.Pack(bits))
		}
	}
}
