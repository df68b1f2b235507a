package weight_test

import (
	"math/rand"
	"slices"
	"testing"

	"cheesepress/api"
	"cheesepress/samples"
	"cheesepress/weight"
)

// least is the least weight of all symbols that have a code. The document allows listed weights for which it is not 1 (its example 2 0 0), though these are no weights of any lengths.
func least(listed []int) int {
	least, _, _ := modelImplied(listed)
	for _, w := range listed {
		if w > 0 {
			least = min(least, w)
		}
	}
	return least
}

// P14.4: lengths become listed weights, and these lengths again; and the other way round, if a weight is 1. Otherwise all weights become less, until one is.
func TestThereAndBack(t *testing.T) {
	for _, full := range lengthsEnding() {
		if got := lengths(t, listed(t, full)); !slices.Equal(got, full) {
			t.Errorf("Lengths(Listed(%v)) = %v", full, got)
		}
	}
	kept, lessened := 0, 0
	for _, l := range rightListed() {
		want, less := slices.Clone(l), least(l)-1
		for i, w := range l {
			if w > 0 {
				want[i] = w - less
			}
		}
		if less > 0 {
			lessened++
		} else {
			kept++
		}
		if got := listed(t, lengths(t, l)); !slices.Equal(got, want) {
			t.Errorf("Listed(Lengths(%v)) = %v, not %v", l, got, want)
		}
	}
	if kept < 1000 || lessened < 100 {
		t.Errorf("%d lists are kept, and %d lessened", kept, lessened)
	}
}

// P14.5: the greatest length is m, if a weight is 1; the implied weight is from 1 to m, and all weights make up 1 << m.
func TestMakeUp(t *testing.T) {
	for _, l := range rightListed() {
		implied, most, _ := weight.Implied(l)
		sum := power(implied - 1)
		for _, w := range l {
			if w > 0 {
				sum += power(w - 1)
			}
		}
		if got := slices.Max(lengths(t, l)); got != most+1-least(l) || implied < 1 || implied > most || sum != power(most) {
			t.Errorf("Implied(%v) = %d, %d; the greatest length is %d, and the sum %d", l, implied, most, got, sum)
		}
	}
}

// P14.6: a direct description is read back, whatever follows; it has a byte, and one for two weights.
func TestDirectIsRead(t *testing.T) {
	for _, l := range rightListed() {
		s, err := weight.Direct(l)
		if err == api.ErrLong {
			continue
		}
		if len(s) != 1+(len(l)+1)/2 {
			t.Errorf("Direct(%v) has %d bytes", l, len(s))
		}
		for _, around := range []string{"", "\x00", "\xff\xff", "abcdefgh"} {
			if got, next, f := weight.ReadDirect(around+s+around, len(around)); !slices.Equal(got, l) || next != len(around)+len(s) || f != (api.Fault{}) {
				t.Errorf("ReadDirect(Direct(%v)) = %v, %d, %v", l, got, next, f)
			}
		}
	}
}

// P14.7: the order of listed weights does not matter.
func TestOtherOrder(t *testing.T) {
	chance := rand.New(rand.NewSource(7))
	for _, l := range rightListed() {
		implied, most, _ := weight.Implied(l)
		for range 3 {
			other := slices.Clone(l)
			chance.Shuffle(len(other), func(i, j int) { other[i], other[j] = other[j], other[i] })
			if w, m, err := weight.Implied(other); w != implied || m != most || err != api.OK {
				t.Errorf("Implied(%v) = %d, %d, %v, but Implied(%v) = %d, %d", other, w, m, err, l, implied, most)
			}
		}
	}
}

// P14.8: all weights of a tree, listed, are right again, and one that is as great as all of them is implied.
func TestAllListed(t *testing.T) {
	again, deep := 0, 0
	for _, full := range lengthsEnding() {
		all, _ := weight.Weights(full)
		most := slices.Max(full)
		if len(all) > 255 {
			continue
		}
		w, m, err := weight.Implied(all)
		if most < 11 {
			again++
			if w != most+1 || m != most+1 || err != api.OK {
				t.Errorf("Implied(%v) = %d, %d, %v", all, w, m, err)
			}
			continue
		}
		deep++
		if err != api.ErrTree {
			t.Errorf("Implied(%v) = %d, %d, %v", all, w, m, err)
		}
	}
	if again < 100 || deep < 10 {
		t.Errorf("%d trees are listed again, %d are too deep", again, deep)
	}
	if w, m, err := weight.Implied(samples.Full(4, 1)); w != 3 || m != 3 || err != api.OK {
		t.Errorf("Implied(1 1 1 1) = %d, %d, %v", w, m, err)
	}
}
