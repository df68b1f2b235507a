package weight_test

import (
	"slices"
	"testing"

	"cheesepress/api"
	"cheesepress/samples"
	"cheesepress/weight"
)

// P14.1: Check, Weights and Listed of right lengths, which stay as they are.
func TestWeights(t *testing.T) {
	for _, lengths := range lengthsEnding() {
		before := slices.Clone(lengths)
		want := modelWeights(lengths)
		if err := weight.Check(lengths); err != api.OK {
			t.Errorf("Check(%v) = %v", lengths, err)
		}
		if got, err := weight.Weights(lengths); !slices.Equal(got, want) || err != api.OK {
			t.Errorf("Weights(%v) = %v, %v, not %v", lengths, got, err, want)
		}
		if got := listed(t, lengths); !slices.Equal(got, want[:len(want)-1]) {
			t.Errorf("Listed(%v) = %v, not %v", lengths, got, want[:len(want)-1])
		}
		if !slices.Equal(lengths, before) {
			t.Errorf("the lengths %v have become %v", before, lengths)
		}
	}
}

// P14.1, P1: lengths that are not right.
func TestWrongLengths(t *testing.T) {
	for _, c := range wrongLengths() {
		if err := weight.Check(c.list); err != c.err {
			t.Errorf("Check(%v) = %v, not %v", c.list, err, c.err)
		}
		for name, f := range map[string]func([]int) ([]int, api.Errno){"Weights": weight.Weights, "Listed": weight.Listed} {
			if l, err := f(c.list); l != nil || err != c.err {
				t.Errorf("%s(%v) = %v, %v, not %v", name, c.list, l, err, c.err)
			}
		}
	}
}

// P14.2, P14.3, P1: Right and Implied of many lists, and the errors of Lengths and Direct.
func TestImplied(t *testing.T) {
	found := map[api.Errno]int{}
	for _, l := range lists() {
		before := slices.Clone(l)
		want, wantMost, wantErr := modelImplied(l)
		found[wantErr]++
		if got, most, err := weight.Implied(l); got != want || most != wantMost || err != wantErr {
			t.Errorf("Implied(%v) = %d, %d, %v, not %d, %d, %v", l, got, most, err, want, wantMost, wantErr)
		}
		if err := weight.Right(l); err != wantErr {
			t.Errorf("Right(%v) = %v, not %v", l, err, wantErr)
		}
		if !slices.Equal(l, before) {
			t.Errorf("the weights %v have become %v", before, l)
		}
		if wantErr == api.OK {
			continue
		}
		if got, err := weight.Lengths(l); got != nil || err != wantErr {
			t.Errorf("Lengths(%v) = %v, %v, not %v", l, got, err, wantErr)
		}
		if s, err := weight.Direct(l); s != "" || err != wantErr {
			t.Errorf("Direct(%v) = %x, %v, not %v", l, s, err, wantErr)
		}
	}
	for _, err := range []api.Errno{api.OK, api.ErrLong, api.ErrRange, api.ErrTree} {
		if found[err] < 100 {
			t.Errorf("just %d lists have the error %v", found[err], err)
		}
	}
}

// P14.2: sums beside those that are right: nothing is listed, nearly all is missing, and m is 11 or 12.
func TestBounds(t *testing.T) {
	for _, c := range []struct {
		list         []int
		weight, most int
		err          api.Errno
	}{
		{[]int{0}, 0, 0, api.ErrTree}, {samples.Full(255, 0), 0, 0, api.ErrTree}, {[]int{11}, 11, 11, api.OK}, {[]int{10}, 10, 10, api.OK}, {[]int{11, 10, 9, 8, 7, 6, 5, 4, 3, 2, 1}, 1, 11, api.OK}, {[]int{11, 10, 9, 8, 7, 6, 5, 4, 3, 2}, 2, 11, api.OK},
		{[]int{11, 11}, 0, 0, api.ErrTree}, {[]int{10, 10}, 11, 11, api.OK}, {[]int{11, 1}, 0, 0, api.ErrTree}, {samples.Full(253, 4), 0, 0, api.ErrTree}, {samples.Full(254, 4), 5, 11, api.OK}, {samples.Full(255, 4), 4, 11, api.OK}, {samples.Full(255, 5), 0, 0, api.ErrTree}, {samples.Full(255, 11), 0, 0, api.ErrTree}, {samples.Full(255, 1), 1, 8, api.OK}, {samples.Full(254, 1), 2, 8, api.OK}, {samples.Full(253, 1), 0, 0, api.ErrTree},
		{nil, 0, 0, api.ErrLong}, {samples.Full(256, 1), 0, 0, api.ErrLong}, {samples.Full(256, 12), 0, 0, api.ErrLong}, {samples.Behind(samples.Full(254, 1), 12), 0, 0, api.ErrRange}, {[]int{0, -1}, 0, 0, api.ErrRange},
	} {
		if w, most, err := weight.Implied(c.list); w != c.weight || most != c.most || err != c.err {
			t.Errorf("Implied(%v) = %d, %d, %v, not %d, %d, %v", c.list, w, most, err, c.weight, c.most, c.err)
		}
	}
}

// P14.2: the lengths of all symbols.
func TestLengths(t *testing.T) {
	for _, l := range rightListed() {
		before := slices.Clone(l)
		implied, most, _ := modelImplied(l)
		var want []int
		for _, w := range samples.Behind(l, implied) {
			length := 0
			if w > 0 {
				length = most + 1 - w
			}
			want = append(want, length)
		}
		if got := lengths(t, l); !slices.Equal(got, want) {
			t.Errorf("Lengths(%v) = %v, not %v", l, got, want)
		}
		if !slices.Equal(l, before) {
			t.Errorf("the weights %v have become %v", before, l)
		}
	}
}

// The chapter's examples.
func TestExamples(t *testing.T) {
	if l, err := weight.Weights([]int{1, 2, 3, 3}); !slices.Equal(l, []int{3, 2, 1, 1}) || err != api.OK {
		t.Errorf("Weights(1 2 3 3) = %v, %v", l, err)
	}
	if l := listed(t, []int{1, 2, 3, 3}); !slices.Equal(l, []int{3, 2, 1}) {
		t.Errorf("Listed(1 2 3 3) = %v", l)
	}
	for _, c := range []struct {
		list         []int
		weight, most int
	}{{[]int{3, 2, 1}, 1, 3}, {[]int{1}, 1, 1}, {[]int{2, 0, 0}, 2, 2}} {
		if w, most, err := weight.Implied(c.list); w != c.weight || most != c.most || err != api.OK {
			t.Errorf("Implied(%v) = %d, %d, %v", c.list, w, most, err)
		}
	}
	if a, b := lengths(t, []int{3, 2, 1}), lengths(t, []int{1}); !slices.Equal(a, []int{1, 2, 3, 3}) || !slices.Equal(b, []int{1, 1}) {
		t.Errorf("Lengths: %v, %v", a, b)
	}
	for _, c := range []judged{{[]int{2, 1}, api.OK}, {[]int{0}, api.ErrTree}, {[]int{12}, api.ErrRange}} {
		if err := weight.Right(c.list); err != c.err {
			t.Errorf("Right(%v) = %v, not %v", c.list, err, c.err)
		}
	}
	for _, c := range []judged{{[]int{1, 1, 1}, api.ErrTree}, {[]int{1}, api.ErrLong}, {[]int{1, 0}, api.ErrTree}, {[]int{12, 1}, api.ErrRange}} {
		if err := weight.Check(c.list); err != c.err {
			t.Errorf("Check(%v) = %v, not %v", c.list, err, c.err)
		}
	}
	for s, list := range map[string][]int{"\x82\x32\x10": {3, 2, 1}, "\x80\x10": {1}} {
		if got, err := weight.Direct(list); got != s || err != api.OK {
			t.Errorf("Direct(%v) = %x, %v", list, got, err)
		}
	}
	if l, next, f := weight.ReadDirect("\x82\x32\x10\x09", 0); !slices.Equal(l, []int{3, 2, 1}) || next != 3 || f != (api.Fault{}) {
		t.Errorf("ReadDirect(82 32 10 09, 0) = %v, %d, %v", l, next, f)
	}
	readRefused(t, "\x82\x32", 0, api.Fault{Err: api.ErrShort, At: 2})
	readRefused(t, "\x05", 0, api.Fault{Err: api.ErrTree, At: 0})
}

// What is changed in a result, or appended to it, shows neither in an argument nor in another result.
func TestResultsShareNothing(t *testing.T) {
	full, weights := []int{1, 2, 3, 3}, []int{3, 2, 1}
	for name, f := range map[string]func() []int{
		"Weights":    func() []int { l, _ := weight.Weights(full); return l },
		"Listed":     func() []int { return listed(t, full) },
		"Lengths":    func() []int { return lengths(t, weights) },
		"ReadDirect": func() []int { l, _, _ := weight.ReadDirect("\x82\x32\x10", 0); return l },
	} {
		one, other := f(), f()
		for i := range append(one, 7) {
			if i < len(one) {
				one[i] = 1000
			}
		}
		if slices.Contains(other, 1000) || !slices.Equal(full, []int{1, 2, 3, 3}) || !slices.Equal(weights, []int{3, 2, 1}) {
			t.Errorf("%s: %v, %v, %v and %v share memory", name, one, other, full, weights)
		}
		if cap(one) != len(one) {
			t.Errorf("%s: there is room behind %v", name, one)
		}
	}
}
