package fse_test

import (
	"math/bits"
	"slices"
	"testing"

	"cheesepress/api"
	"cheesepress/back"
	"cheesepress/fse"
	"cheesepress/samples"
)

// P12.4: lists are read from their streams, with one state, and with two if two symbols at least occur.
func TestRoundtrip(t *testing.T) {
	for _, d := range samples.Right() {
		for _, n := range []int{1, 2, 3, 255} {
			l := chanceList(d, n)
			if got, err := fse.Read(d, written(t, d, l), n); !slices.Equal(got, l) || err != api.OK {
				t.Errorf("Read(%v, Write(%v)) = %v, %v", d, l, got, err)
			}
			if n < 2 || occurring(d) < 2 {
				continue
			}
			if got, err := fse.ReadTwo(d, writtenTwo(t, d, l)); !slices.Equal(got, l) || err != api.OK {
				t.Errorf("ReadTwo(%v, WriteTwo(%v)) = %v, %v", d, l, got, err)
			}
		}
	}
}

// P12.4: the same for lists of one symbol alone, also where most of its cells have no bits.
func TestRoundtripOfOne(t *testing.T) {
	for _, d := range small() {
		for symbol, prob := range d.Probs {
			if prob == 0 || occurring(d) < 2 {
				continue
			}
			for _, n := range []int{2, 3, 50, 255} {
				l := slices.Repeat([]int{symbol}, n)
				if got, err := fse.ReadTwo(d, writtenTwo(t, d, l)); !slices.Equal(got, l) || err != api.OK {
					t.Errorf("ReadTwo(%v, WriteTwo(%d times %d)) = %v, %v", d, n, symbol, got, err)
				}
			}
		}
	}
}

// P12.5: the stream has Cost bits, and what ends it; each symbol but the last one costs Log less the highest bit of its probability, or one bit less.
func TestCostOfSymbols(t *testing.T) {
	for _, d := range small() {
		l := chanceList(d, 40)
		for i := range l {
			n := cost(t, d, l[i:])
			s := written(t, d, l[i:])
			if count, err := back.Bits(s); count != n || err != api.OK || len(s) != n/8+1 {
				t.Errorf("Write(%v, %v) has %d bits, not %d", d, l[i:], count, n)
			}
			if i == len(l)-1 {
				if n != d.Log {
					t.Errorf("Cost(%v, %v) = %d", d, l[i:], n)
				}
				continue
			}
			step := n - cost(t, d, l[i+1:])
			most := d.Log - (bits.Len(uint(max(d.Probs[l[i]], 1))) - 1)
			if step != most && step != most-1 {
				t.Errorf("the first symbol of %v costs %d bits in %v", l[i:], step, d)
			}
		}
	}
}

// lists are all lists of n symbols below 3.
func lists(n int) [][]int {
	list := [][]int{nil}
	for range n {
		var longer [][]int
		for _, l := range list {
			for symbol := range 3 {
				longer = append(longer, append(slices.Clone(l), symbol))
			}
		}
		list = longer
	}
	return list
}

// P12.6: two lists of the same length have different streams.
func TestDifferentStreams(t *testing.T) {
	for _, d := range []api.Dist{samples.Of(5, 16, 8, 8), samples.Of(5, 30, 1, -1), samples.Of(5, -1, -1, 30), samples.Of(7, 100, 27, 1)} {
		for n := 1; n <= 6; n++ {
			of, ofTwo := map[string][]int{}, map[string][]int{}
			for _, l := range lists(n) {
				s := written(t, d, l)
				if other, there := of[s]; there {
					t.Errorf("%v: %v and %v have the stream %x", d, l, other, s)
				}
				of[s] = l
				if n < 2 {
					continue
				}
				s = writtenTwo(t, d, l)
				if other, there := ofTwo[s]; there {
					t.Errorf("%v: %v and %v have the stream %x with two states", d, l, other, s)
				}
				ofTwo[s] = l
			}
		}
	}
}

// P12.7: a stream with a byte before it, or without its first byte, is not read as the same list.
func TestOtherStreams(t *testing.T) {
	for _, d := range small() {
		for _, n := range []int{1, 2, 3, 20, 100} {
			l := chanceList(d, n)
			s := written(t, d, l)
			for _, other := range []string{"\x00" + s, "\x01" + s, "\xff" + s, s[1:]} {
				if got, err := fse.Read(d, other, n); got != nil || err != api.ErrStream {
					t.Errorf("Read(%v, %x, %d) = %v, %v", d, other, n, got, err)
				}
			}
			if n < 2 {
				continue
			}
			s = writtenTwo(t, d, l)
			for _, other := range []string{"\x00" + s, "\x01" + s, "\xff" + s, s[1:]} {
				if got, err := fse.ReadTwo(d, other); err == api.OK && slices.Equal(got, l) {
					t.Errorf("ReadTwo(%v, %x) = %v, as without a change", d, other, got)
				}
			}
		}
	}
}
