package length_test

import (
	"math/big"
	"slices"
	"testing"

	"cheesepress/api"
	"cheesepress/length"
	"cheesepress/samples"
)

// P13.1: Depths and Of, against a model that joins lists of symbols; the counts stay as they are.
func TestDepthsOf(t *testing.T) {
	deep, often := 0, 0
	for _, counts := range trees() {
		before := slices.Clone(counts)
		want := modelDepths(counts)
		if got := depths(t, counts); !slices.Equal(got, want) {
			t.Errorf("Depths(%v) = %v, not %v", counts, got, want)
		}
		deep = max(deep, slices.Max(want))
		want, halved := modelOf(counts)
		if got := of(t, counts); !slices.Equal(got, want) {
			t.Errorf("Of(%v) = %v, not %v", counts, got, want)
		}
		often = max(often, halved)
		if !slices.Equal(counts, before) {
			t.Errorf("the counts %v have become %v", before, counts)
		}
	}
	if deep < 38 || often < 3 {
		t.Errorf("no depth is above %d, and counts are halved %d times at most", deep, often)
	}
}

// P13.1: ties. Leaves come before joined nodes, leaves by their symbols, and the oldest joined node first.
func TestTies(t *testing.T) {
	for _, c := range []struct{ counts, want []int }{
		{[]int{1, 1, 1}, []int{2, 2, 1}},
		{[]int{2, 1, 1}, []int{1, 2, 2}},
		{[]int{1, 1, 2, 2}, []int{2, 2, 2, 2}},
		{[]int{2, 2, 1, 1}, []int{2, 2, 2, 2}},
		{[]int{1, 1, 2, 3, 3}, []int{3, 3, 2, 2, 2}},
		{[]int{1, 1, 1, 1, 2}, []int{3, 3, 2, 2, 2}},
		{[]int{2, 1, 1, 1, 1}, []int{2, 3, 3, 2, 2}},
		{[]int{1, 1, 1, 1, 4}, []int{3, 3, 3, 3, 1}},
		{[]int{1, 0, 1, 0, 1, 1, 1}, []int{3, 0, 3, 0, 2, 2, 2}},
	} {
		if model := modelDepths(c.counts); !slices.Equal(model, c.want) {
			t.Errorf("the model has %v for %v, not %v", model, c.counts, c.want)
		}
		if got := depths(t, c.counts); !slices.Equal(got, c.want) {
			t.Errorf("Depths(%v) = %v, not %v", c.counts, got, c.want)
		}
	}
}

// P13.1: a depth of 11 is not changed, and 12 is.
func TestGreatestDepth(t *testing.T) {
	twelve, thirteen := fibonacci(12), fibonacci(13)
	if got := of(t, twelve); slices.Max(got) != 11 || !slices.Equal(got, depths(t, twelve)) {
		t.Errorf("Of(%v) = %v", twelve, got)
	}
	if got := depths(t, thirteen); slices.Max(got) != 12 {
		t.Errorf("Depths(%v) = %v", thirteen, got)
	}
	half := []int{1, 1, 1, 2, 3, 4, 7, 11, 17, 28, 45, 72, 117}
	if got := of(t, thirteen); !slices.Equal(got, depths(t, half)) {
		t.Errorf("Of(%v) = %v, not that of %v", thirteen, got, half)
	}
}

// P13.1, P1: counts that have no tree.
func TestWrongCounts(t *testing.T) {
	for _, c := range wrongCounts() {
		if l, err := length.Of(c.list); l != nil || err != c.err {
			t.Errorf("Of(%v) = %v, %v, not %v", c.list, l, err, c.err)
		}
		if l, err := length.Depths(c.list); l != nil || err != c.err {
			t.Errorf("Depths(%v) = %v, %v, not %v", c.list, l, err, c.err)
		}
	}
}

// P13.2: Room, Check and Most of complete lengths.
func TestComplete(t *testing.T) {
	for _, lengths := range samples.Lengths() {
		if room, err := length.Room(lengths); room != 2048 || roomOf(lengths) != 2048 || err != api.OK {
			t.Errorf("Room(%v) = %d, %v, not %d", lengths, room, err, roomOf(lengths))
		}
		if err := length.Check(lengths); err != api.OK {
			t.Errorf("Check(%v) = %v", lengths, err)
		}
		if most, err := length.Most(lengths); most != slices.Max(lengths) || err != api.OK {
			t.Errorf("Most(%v) = %d, %v", lengths, most, err)
		}
	}
}

// P13.2, P13.3, P1: lengths that are not complete. Room has just two errors, and Total tells those of lengths before those of counts.
func TestIncomplete(t *testing.T) {
	for _, c := range samples.WrongLengths() {
		wantRoom, wantErr := 0, c.Err
		if c.Err == api.ErrMissing || c.Err == api.ErrTree {
			wantRoom, wantErr = roomOf(c.Lengths), api.OK
		}
		if room, err := length.Room(c.Lengths); room != wantRoom || err != wantErr {
			t.Errorf("Room(%v) = %d, %v, not %d, %v", c.Lengths, room, err, wantRoom, wantErr)
		}
		if err := length.Check(c.Lengths); err != c.Err {
			t.Errorf("Check(%v) = %v, not %v", c.Lengths, err, c.Err)
		}
		if most, err := length.Most(c.Lengths); most != 0 || err != c.Err {
			t.Errorf("Most(%v) = %d, %v, not %v", c.Lengths, most, err, c.Err)
		}
		for _, counts := range [][]int{nil, {1, 1}, {-1}, samples.Full(257, 1)} {
			if n, err := length.Total(counts, c.Lengths); n != 0 || err != c.Err {
				t.Errorf("Total(%v, %v) = %d, %v, not %v", counts, c.Lengths, n, err, c.Err)
			}
		}
	}
}

// P13.3: the sum of products, where all symbols that occur have codes.
func TestTotal(t *testing.T) {
	great := 0
	for _, counts := range trees() {
		for _, lengths := range [][]int{of(t, counts), {1, 1}, {0, 2, 2, 1}, samples.Full(256, 8), samples.Behind([]int{1, 2, 3, 4, 5, 6, 7}, samples.Full(16, 11)...)} {
			sum, missing := new(big.Int), false
			for symbol, count := range counts {
				if count > 0 && (symbol >= len(lengths) || lengths[symbol] == 0) {
					missing = true
					break
				}
				if count > 0 {
					product := new(big.Int).Mul(big.NewInt(int64(count)), big.NewInt(int64(lengths[symbol])))
					sum.Add(sum, product)
				}
			}
			want, wantErr := int(sum.Int64()), api.OK
			if missing {
				want, wantErr = 0, api.ErrMissing
			} else if want > 1<<40 {
				want, wantErr = 0, api.ErrRange
				great++
			}
			if n, err := length.Total(counts, lengths); n != want || err != wantErr {
				t.Errorf("Total(%v, %v) = %d, %v, not %d, %v", counts, lengths, n, err, want, wantErr)
			}
		}
	}
	if great < 5 {
		t.Errorf("just %d sums are too great", great)
	}
}

// P13.3: what is wrong with counts, and where they end.
func TestTotalCounts(t *testing.T) {
	const most = api.MaxCount
	lengths := []int{1, 0, 2, 2}
	for _, c := range []struct {
		counts []int
		want   int
		err    api.Errno
	}{
		{nil, 0, api.OK}, {[]int{0}, 0, api.OK}, {[]int{0, 0, 0, 0, 0}, 0, api.OK}, {[]int{3}, 3, api.OK}, {[]int{3, 0, 1}, 5, api.OK}, {[]int{3, 0, 1, 2}, 9, api.OK}, {samples.Behind([]int{3, 0, 1, 2}, samples.Full(252, 0)...), 9, api.OK},
		{[]int{0, 1}, 0, api.ErrMissing}, {[]int{0, 0, 0, 0, 1}, 0, api.ErrMissing}, {[]int{3, 1, most}, 0, api.ErrRange}, {[]int{0, 1, 0, most - 1}, 0, api.ErrMissing},
		{[]int{most}, most, api.OK}, {[]int{0, 0, most / 2}, most, api.OK}, {[]int{0, 0, most/2 + 1}, 0, api.ErrRange}, {[]int{0, 0, most / 4, most / 4}, most, api.OK}, {[]int{1, 0, most / 4, most / 4}, 0, api.ErrRange}, {[]int{0, 0, 0, most}, 0, api.ErrRange},
		{[]int{-1}, 0, api.ErrRange}, {[]int{0, 1, -1}, 0, api.ErrRange}, {[]int{most + 1}, 0, api.ErrRange}, {[]int{most, 1}, 0, api.ErrRange},
		{samples.Full(257, 0), 0, api.ErrFull}, {samples.Full(257, -1), 0, api.ErrFull}, {samples.Full(257, 1), 0, api.ErrFull},
	} {
		if n, err := length.Total(c.counts, lengths); n != c.want || err != c.err {
			t.Errorf("Total(%v, %v) = %d, %v, not %d, %v", c.counts, lengths, n, err, c.want, c.err)
		}
	}
}

// The chapter's examples.
func TestExamples(t *testing.T) {
	for _, c := range []struct{ counts, want []int }{
		{[]int{5, 1, 2, 1}, []int{1, 3, 2, 3}}, {[]int{1, 1}, []int{1, 1}}, {[]int{0, 3, 0, 3}, []int{0, 1, 0, 1}}, {[]int{1, 1, 1}, []int{2, 2, 1}},
	} {
		if got := of(t, c.counts); !slices.Equal(got, c.want) {
			t.Errorf("Of(%v) = %v, not %v", c.counts, got, c.want)
		}
	}
	for _, c := range []judged{{[]int{5}, api.ErrMissing}, {nil, api.ErrMissing}, {[]int{-1, 5}, api.ErrRange}, {samples.Full(257, 1), api.ErrFull}} {
		if l, err := length.Of(c.list); l != nil || err != c.err {
			t.Errorf("Of(%v) = %v, %v, not %v", c.list, l, err, c.err)
		}
	}
	for _, c := range []judged{{[]int{1, 3, 2, 3}, api.OK}, {[]int{1, 1, 1}, api.ErrTree}, {[]int{1}, api.ErrMissing}, {[]int{12}, api.ErrRange}} {
		if err := length.Check(c.list); err != c.err {
			t.Errorf("Check(%v) = %v, not %v", c.list, err, c.err)
		}
	}
	room, _ := length.Room([]int{1, 3, 2, 3})
	most, _ := length.Most([]int{1, 3, 2, 3})
	if sum := total(t, []int{5, 1, 2, 1}, []int{1, 3, 2, 3}); room != 2048 || most != 3 || sum != 15 {
		t.Errorf("%d, %d, %d", room, most, sum)
	}
	if n, err := length.Total([]int{1, 1, 1}, []int{1, 1, 0}); n != 0 || err != api.ErrMissing {
		t.Errorf("Total(1 1 1, 1 1 0) = %d, %v", n, err)
	}
	deep := []int{13, 13, 12, 11, 10, 9, 8, 7, 6, 5, 4, 3, 2, 1}
	if got := depths(t, powers(2, 14)); !slices.Equal(got, deep) {
		t.Errorf("Depths of powers = %v", got)
	}
	if got := of(t, powers(2, 14)); slices.Max(got) != 11 {
		t.Errorf("Of powers = %v", got)
	}
}

// What is changed in a result shows neither in the counts nor in another result.
func TestResultsShareNothing(t *testing.T) {
	counts := []int{5, 1, 2, 1}
	for name, f := range map[string]func([]int) ([]int, api.Errno){"Of": length.Of, "Depths": length.Depths} {
		one, _ := f(counts)
		other, _ := f(counts)
		one[0] = 1000
		if other[0] == 1000 || counts[0] != 5 {
			t.Errorf("%s: %v, %v and %v share memory", name, one, other, counts)
		}
	}
}
