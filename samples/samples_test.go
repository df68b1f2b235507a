package samples_test

import (
	"slices"
	"testing"

	"cheesepress/dist"
	"cheesepress/samples"
)

// What the tests of all layers rely on: the distributions are what they are called.
func TestRightWrong(t *testing.T) {
	for _, d := range samples.Right() {
		if err := dist.Check(d); err != 0 {
			t.Errorf("Check(%v) = %v", d, err)
		}
	}
	for _, c := range samples.Wrong() {
		if err := dist.Check(c.Dist); err != c.Err || err == 0 {
			t.Errorf("Check(%v) = %v, not %v", c.Dist, err, c.Err)
		}
	}
}

// There are distributions of all kinds among them, and they are the same each time.
func TestKinds(t *testing.T) {
	list, again := samples.Right(), samples.Right()
	var zeros, rare, rareOnly, logs [13]int
	for i, d := range list {
		if !dist.Same(d, again[i]) {
			t.Errorf("%v has become %v", d, again[i])
		}
		logs[d.Log]++
		if slices.Contains(d.Probs, 0) {
			zeros[d.Log]++
		}
		if slices.Contains(d.Probs, -1) {
			rare[d.Log]++
		}
		if slices.Max(d.Probs) == -1 {
			rareOnly[d.Log]++
		}
	}
	for log := 5; log <= 12; log++ {
		if logs[log] < 20 || zeros[log] < 10 || rare[log] < 10 {
			t.Errorf("Log %d: %d distributions, %d with 0, %d with -1", log, logs[log], zeros[log], rare[log])
		}
	}
	if rareOnly[5] == 0 || rareOnly[8] == 0 {
		t.Error("no distribution has only -1")
	}
}
