package dist_test

import (
	"math"
	"slices"
	"strconv"
	"strings"
	"testing"

	"cheesepress/api"
	"cheesepress/dist"
	"cheesepress/samples"
)

// P8.1: Check of distributions that are right, and of others; the Log is checked first.
func TestCheck(t *testing.T) {
	for _, d := range samples.Right() {
		if err := dist.Check(d); err != api.OK {
			t.Errorf("Check(%v) = %v", d, err)
		}
	}
	for _, c := range samples.Wrong() {
		if err := dist.Check(c.Dist); err != c.Err {
			t.Errorf("Check(%v) = %v, not %v", c.Dist, err, c.Err)
		}
	}
}

// P8.1: Size, for every Log, whatever the probabilities are.
func TestSize(t *testing.T) {
	for _, log := range []int{math.MinInt, -64, -1, 0, 1, 2, 3, 4, 5, 6, 7, 8, 9, 10, 11, 12, 13, 14, 62, 63, 64, 65, math.MaxInt} {
		want := 0
		if log >= 0 && log <= 12 {
			want = 1 << log
		}
		for _, probs := range [][]int{nil, {32}, {-5}, samples.Full(300, 1)} {
			if got := dist.Size(samples.Of(log, probs...)); got != want {
				t.Errorf("Size(Log %d) = %d, not %d", log, got, want)
			}
		}
	}
}

// spelled are the probabilities that the chapter writes as n times x.
func spelled(s string) []int {
	var probs []int
	for word := range strings.FieldsSeq(s) {
		prob, times, many := strings.Cut(word, "*")
		x, _ := strconv.Atoi(prob)
		n := 1
		if many {
			n, _ = strconv.Atoi(times)
		}
		probs = append(probs, samples.Full(n, x)...)
	}
	return probs
}

// P8.1, P8.7: the predefined distributions, which are valid, and have as many symbols as there are codes.
func TestPredefined(t *testing.T) {
	for kind, c := range []struct {
		log, codes int
		probs      string
	}{
		api.KindLits:   {6, 36, "4 3 2*11 1*3 2*9 3 2 1*5 -1*4"},
		api.KindOffset: {5, 29, "1*6 2*3 1*15 -1*5"},
		api.KindMatch:  {6, 53, "1 4 3 2*6 1*37 -1*7"},
	} {
		d, err := dist.Predefined(kind)
		if err != api.OK || d.Log != c.log || !slices.Equal(d.Probs, spelled(c.probs)) || len(d.Probs) != c.codes {
			t.Errorf("Predefined(%d) = %v, %v", kind, d, err)
		}
		if err := dist.Check(d); err != api.OK {
			t.Errorf("Check of Predefined(%d) = %v", kind, err)
		}
		d.Probs[0] = 100
		if again, _ := dist.Predefined(kind); again.Probs[0] == 100 {
			t.Errorf("Predefined(%d) is changed by a change of its result", kind)
		}
	}
	for _, kind := range []int{math.MinInt, -1, 3, 4, math.MaxInt} {
		if d, err := dist.Predefined(kind); !none(d) || err != api.ErrKind {
			t.Errorf("Predefined(%d) = %v, %v", kind, d, err)
		}
	}
}

// P8.1: Same asks for the Log and all Probs, also of distributions that are not right.
func TestSame(t *testing.T) {
	list := []api.Dist{samples.Of(5), samples.Of(6), samples.Of(5, 32), samples.Of(6, 32), samples.Of(5, 32, 0), samples.Of(5, 0, 32), samples.Of(5, 16, 16), samples.Of(5, 16, -1), samples.Of(5, 16), samples.Of(-1, -7, 8)}
	for i, a := range list {
		for j, b := range list {
			if got := dist.Same(a, samples.Of(b.Log, slices.Clone(b.Probs)...)); got != (i == j) {
				t.Errorf("Same(%v, %v) = %v", a, b, got)
			}
		}
	}
	if !dist.Same(api.Dist{Log: 5, Probs: []int{}}, api.Dist{Log: 5}) {
		t.Error("a distribution with empty Probs is not the same as one without")
	}
}

// The chapter's examples.
func TestExamples(t *testing.T) {
	d := samples.Of(5, 16, 16)
	if s, err := dist.Write(d); s != "\x10\x3f" || err != api.OK {
		t.Errorf("Write(%v) = %x, %v", d, s, err)
	}
	if n, err := dist.Bits(d); n != 14 || err != api.OK {
		t.Errorf("Bits(%v) = %d, %v", d, n, err)
	}
	for _, c := range []struct {
		s        string
		at, most int
		want     api.Errno
	}{{"", 0, 9, api.ErrTable}, {"\x0f", 0, 9, api.ErrAccuracy}, {"\x00\x00", 1, 4, api.ErrRange}} {
		if d, next, f := dist.Read(c.s, c.at, c.most, 9); !none(d) || next != 0 || f != (api.Fault{Err: c.want}) {
			t.Errorf("Read(%x, %d, %d, 9) = %v, %d, %v", c.s, c.at, c.most, d, next, f)
		}
	}
	if n := dist.Size(samples.Of(6)); n != 64 {
		t.Errorf("Size(Log 6) = %d", n)
	}
}
