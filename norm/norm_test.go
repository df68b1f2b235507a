package norm_test

import (
	"math"
	"slices"
	"testing"

	"cheesepress/api"
	"cheesepress/norm"
)

// P7.1: Log and Of, for every greatest accuracy.
func TestLogOf(t *testing.T) {
	for _, l := range lists() {
		for _, most := range accuracies() {
			want, wantErr := 0, api.OK
			switch {
			case most < 5 || most > 12:
				wantErr = api.ErrAccuracy
			case distinctOf(l) > 1<<most:
				wantErr = api.ErrRange
			default:
				want = modelLog(l, most)
			}
			log, err := norm.Log(l, most)
			if log != want || err != wantErr {
				t.Errorf("Log(%v, %d) = %d, %v, not %d, %v", l, most, log, err, want, wantErr)
			}
			d, err := norm.Of(l, most)
			if wantErr != api.OK {
				if !none(d) || err != wantErr {
					t.Errorf("Of(%v, %d) = %v, %v", l, most, d, err)
				}
				continue
			}
			if err != api.OK || !same(d, want, modelProbs(l, want)) {
				t.Errorf("Of(%v, %d) = %v, %v, not %v", l, most, d, err, modelProbs(l, want))
			}
		}
	}
}

// P7.2: With, for every accuracy.
func TestWith(t *testing.T) {
	for _, l := range lists() {
		before := slices.Clone(l)
		for _, log := range accuracies() {
			d, err := norm.With(l, log)
			switch {
			case log < 5 || log > 12:
				if !none(d) || err != api.ErrAccuracy {
					t.Errorf("With(%v, %d) = %v, %v", l, log, d, err)
				}
			case distinctOf(l) > 1<<log:
				if !none(d) || err != api.ErrRange {
					t.Errorf("With(%v, %d) = %v, %v", l, log, d, err)
				}
			default:
				if want := modelProbs(l, log); err != api.OK || !same(d, log, want) {
					t.Errorf("With(%v, %d) = %v, %v, not %v", l, log, d, err, want)
				}
			}
		}
		if !slices.Equal(l, before) {
			t.Errorf("the counts %v have become %v", before, l)
		}
	}
}

// P7.1, P7.2, P1: errors of the counts come first, whatever the accuracy is.
func TestWrongCounts(t *testing.T) {
	for _, c := range wrong() {
		for _, log := range accuracies() {
			if n, err := norm.Log(c.l, log); n != 0 || err != c.err {
				t.Errorf("Log(%v, %d) = %d, %v", c.l, log, n, err)
			}
			if d, err := norm.Of(c.l, log); !none(d) || err != c.err {
				t.Errorf("Of(%v, %d) = %v, %v", c.l, log, d, err)
			}
			if d, err := norm.With(c.l, log); !none(d) || err != c.err {
				t.Errorf("With(%v, %d) = %v, %v", c.l, log, d, err)
			}
		}
	}
}

// P7.1, P7.2: as many symbols as there are cells have a distribution, one more have none.
func TestManySymbols(t *testing.T) {
	for log := 5; log <= 8; log++ {
		cells := 1 << log
		if d, err := norm.With(full(cells, 3), log); err != api.OK || !same(d, log, full(cells, 1)) {
			t.Errorf("With of %d symbols = %v, %v", cells, d, err)
		}
		if n, err := norm.Log(full(cells, 3), log); n != log || err != api.OK {
			t.Errorf("Log of %d symbols = %d, %v", cells, n, err)
		}
		if cells == api.MaxSymbols {
			continue
		}
		if d, err := norm.With(full(cells+1, 3), log); !none(d) || err != api.ErrRange {
			t.Errorf("With of %d symbols = %v, %v", cells+1, d, err)
		}
		if n, err := norm.Log(full(cells+1, 3), log); n != 0 || err != api.ErrRange {
			t.Errorf("Log of %d symbols = %d, %v", cells+1, n, err)
		}
	}
}

// P7.3: Sum, and the bounds of probabilities.
func TestSum(t *testing.T) {
	for _, probs := range [][]int{nil, {0}, {-1}, {-1, -1}, {30, -1, -1}, {1, 0, 4096}, {4096}, full(256, 4096), full(256, -1), full(256, 0)} {
		if n, err := norm.Sum(probs); n != pointsOf(probs) || err != api.OK {
			t.Errorf("Sum(%v) = %d, %v", probs, n, err)
		}
	}
	for _, probs := range [][]int{{-2}, {4097}, {1, -2}, {1, 4097, 1}, {math.MinInt}, {math.MaxInt}, {math.MaxInt, 3}, full(257, 0), full(257, 1), full(257, -5), full(1000, 4096), behind(full(255, 1), 4097)} {
		if n, err := norm.Sum(probs); n != 0 || err != api.ErrRange {
			t.Errorf("Sum(%v) = %d, %v", probs, n, err)
		}
	}
}

// The chapter's examples.
func TestExamples(t *testing.T) {
	for _, c := range []struct {
		l          []int
		most, want int
	}{{[]int{1, 1}, 9, 5}, {[]int{100}, 9, 5}, {[]int{5000, 5000}, 9, 9}, {[]int{5000, 5000}, 6, 6}} {
		if n, err := norm.Log(c.l, c.most); n != c.want || err != api.OK {
			t.Errorf("Log(%v, %d) = %d, %v", c.l, c.most, n, err)
		}
	}
	if d, err := norm.Of([]int{3, 1}, 6); !same(d, 5, []int{24, 8}) || err != api.OK {
		t.Errorf("Of(3 1, 6) = %v, %v", d, err)
	}
	if d, err := norm.Of([]int{1, 0, 1, 1}, 6); !same(d, 5, []int{12, 0, 10, 10}) || err != api.OK {
		t.Errorf("Of(1 0 1 1, 6) = %v, %v", d, err)
	}
	if d, err := norm.With([]int{1000, 1, 1}, 5); !same(d, 5, []int{30, -1, -1}) || err != api.OK {
		t.Errorf("With(1000 1 1, 5) = %v, %v", d, err)
	}
	if probs := with(behind([]int{10}, full(31, 1)...), 5); probs[0] != 1 {
		t.Errorf("With(10 and 31 times 1, 5) = %v", probs)
	}
	for _, c := range []struct {
		f    func([]int, int) (api.Dist, api.Errno)
		l    []int
		log  int
		want api.Errno
	}{{norm.Of, []int{0, 0}, 9, api.ErrMissing}, {norm.Of, []int{1}, 4, api.ErrAccuracy}, {norm.Of, []int{1}, 13, api.ErrAccuracy}, {norm.With, []int{1}, 4, api.ErrAccuracy}} {
		if d, err := c.f(c.l, c.log); !none(d) || err != c.want {
			t.Errorf("%v, %d: %v, %v", c.l, c.log, d, err)
		}
	}
	if n, err := norm.Sum([]int{30, -1, -1}); n != 32 || err != api.OK {
		t.Errorf("Sum(30 -1 -1) = %d, %v", n, err)
	}
	if n, err := norm.Sum([]int{-2}); n != 0 || err != api.ErrRange {
		t.Errorf("Sum(-2) = %d, %v", n, err)
	}
}
