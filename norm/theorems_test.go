package norm_test

import (
	"slices"
	"testing"

	"cheesepress/api"
	"cheesepress/norm"
)

// P7.4: the sum is the size, and just the symbols with counts have probabilities.
func TestPointsAreSize(t *testing.T) {
	for _, l := range lists() {
		for log := 5; log <= 12; log++ {
			if !isAccuracy(log, distinctOf(l)) {
				continue
			}
			probs := with(l, log)
			if n, err := norm.Sum(probs); n != 1<<log || err != api.OK {
				t.Errorf("Sum(%v) = %d, %v", probs, n, err)
			}
			for symbol, count := range l {
				if has := symbol < len(probs) && probs[symbol] != 0; has != (count > 0) {
					t.Errorf("With(%v, %d) = %v", l, log, probs)
				}
			}
			if last := probs[len(probs)-1]; last == 0 || slices.Min(probs) < -1 {
				t.Errorf("With(%v, %d) = %v", l, log, probs)
			}
		}
	}
}

// P7.5: a symbol that is alone has the whole size.
func TestAlone(t *testing.T) {
	for _, symbol := range []int{0, 1, 31, 100, 255} {
		for _, count := range []int{1, 2, 31, 32, 33, 1000003, api.MaxCount} {
			l := make([]int, symbol+1)
			l[symbol] = count
			for log := 5; log <= 12; log++ {
				want := make([]int, symbol+1)
				want[symbol] = 1 << log
				if probs := with(l, log); !slices.Equal(probs, want) {
					t.Errorf("With(%v, %d) = %v", l, log, probs)
				}
			}
		}
	}
}

// P7.6: counts that are all multiplied have the same distribution.
func TestMultiplied(t *testing.T) {
	for _, l := range lists() {
		for _, times := range []int{2, 3, 7, 1000, 1 << 20} {
			if totalOf(l) > api.MaxCount/times {
				continue
			}
			more := slices.Clone(l)
			for symbol := range more {
				more[symbol] *= times
			}
			for log := 5; log <= 12; log++ {
				if isAccuracy(log, distinctOf(l)) && !slices.Equal(with(l, log), with(more, log)) {
					t.Errorf("With(%v, %d) = %v, and %d times as many give %v", l, log, with(l, log), times, with(more, log))
				}
			}
		}
	}
}

// P7.7: a greater count has a probability that is not less by more than 1.
func TestGreaterCounts(t *testing.T) {
	for _, l := range lists() {
		for log := 5; log <= 12; log++ {
			if !isAccuracy(log, distinctOf(l)) {
				continue
			}
			probs := with(l, log)
			for a := range probs {
				for b := range probs {
					if l[a] > l[b] && pointsOf(probs[a:a+1]) < pointsOf(probs[b:b+1])-1 {
						t.Errorf("With(%v, %d) = %v: %d has less than %d", l, log, probs, a, b)
					}
				}
			}
		}
	}
}

// P7.8: the accuracy is from 5 to most, and there is a cell for each symbol.
func TestAccuracy(t *testing.T) {
	for _, l := range lists() {
		for most := 5; most <= 12; most++ {
			if !isAccuracy(most, distinctOf(l)) {
				continue
			}
			log, err := norm.Log(l, most)
			if err != api.OK || log < 5 || log > most || 1<<log < distinctOf(l) {
				t.Errorf("Log(%v, %d) = %d, %v", l, most, log, err)
			}
		}
	}
}

// What is changed in probabilities does not show in the counts, or in other probabilities.
func TestProbsShareNothing(t *testing.T) {
	l := []int{1, 2, 3}
	one, other := with(l, 5), with(l, 5)
	one[0] = 1000
	if !slices.Equal(l, []int{1, 2, 3}) || other[0] == 1000 {
		t.Errorf("%v, %v and %v share memory", l, one, other)
	}
}
