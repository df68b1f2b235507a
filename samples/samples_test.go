package samples_test

import (
	"slices"
	"testing"

	"cheesepress/api"
	"cheesepress/dist"
	"cheesepress/length"
	"cheesepress/samples"
)

// What the tests of all layers rely on: the distributions are what they are called.
func TestRightWrong(t *testing.T) {
	for _, d := range samples.Right() {
		if err := dist.Check(d); err != 0 {
			t.Errorf("Check(%v) = %v", d, err)
		}
	}
	for _, c := range samples.Wrong() {
		if err := dist.Check(c.Dist); err != c.Err || err == 0 {
			t.Errorf("Check(%v) = %v, not %v", c.Dist, err, c.Err)
		}
	}
}

// There are distributions of all kinds among them, and they are the same each time.
func TestKinds(t *testing.T) {
	list, again := samples.Right(), samples.Right()
	var zeros, rare, rareOnly, logs [13]int
	for i, d := range list {
		if !dist.Same(d, again[i]) {
			t.Errorf("%v has become %v", d, again[i])
		}
		logs[d.Log]++
		if slices.Contains(d.Probs, 0) {
			zeros[d.Log]++
		}
		if slices.Contains(d.Probs, -1) {
			rare[d.Log]++
		}
		if slices.Max(d.Probs) == -1 {
			rareOnly[d.Log]++
		}
	}
	for log := 5; log <= 12; log++ {
		if logs[log] < 20 || zeros[log] < 10 || rare[log] < 10 {
			t.Errorf("Log %d: %d distributions, %d with 0, %d with -1", log, logs[log], zeros[log], rare[log])
		}
	}
	if rareOnly[5] == 0 || rareOnly[8] == 0 {
		t.Error("no distribution has only -1")
	}
}

// Lengths are complete: they are right for layer 13, and leave out nothing of what they are called.
func TestLengths(t *testing.T) {
	list, again := samples.Lengths(), samples.Lengths()
	var most, sizes [257]int
	zeros, lastZero := 0, 0
	for i, l := range list {
		if err := length.Check(l); err != api.OK {
			t.Errorf("Check(%v) = %v", l, err)
		}
		if !slices.Equal(l, again[i]) {
			t.Errorf("%v has become %v", l, again[i])
		}
		most[slices.Max(l)]++
		sizes[len(l)]++
		if slices.Contains(l, 0) {
			zeros++
		}
		if l[len(l)-1] == 0 {
			lastZero++
		}
	}
	for m := 1; m <= api.MaxHuf; m++ {
		if most[m] < 5 {
			t.Errorf("the greatest length of %d lists is %d", most[m], m)
		}
	}
	if sizes[2] == 0 || sizes[256] == 0 || zeros < 100 || lastZero < 20 || zeros > len(list)-20 {
		t.Errorf("%d lists of 2, %d of 256; %d with a 0, %d at the end", sizes[2], sizes[256], zeros, lastZero)
	}
}

// All wrong lengths have the error that they are given.
func TestWrongLengths(t *testing.T) {
	for _, c := range samples.WrongLengths() {
		if err := length.Check(c.Lengths); err != c.Err || err == api.OK {
			t.Errorf("Check(%v) = %v, not %v", c.Lengths, err, c.Err)
		}
	}
}
