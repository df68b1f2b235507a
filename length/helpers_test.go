package length_test

import (
	"cmp"
	"math"
	"math/rand"
	"slices"
	"testing"

	"cheesepress/api"
	"cheesepress/length"
	"cheesepress/samples"
)

// powers are n powers of a base, from 1 on.
func powers(base, n int) []int {
	list := []int{1}
	for len(list) < n {
		list = append(list, base*list[len(list)-1])
	}
	return list
}

// fibonacci are the first n of these numbers: the least counts whose tree is a chain.
func fibonacci(n int) []int {
	list := []int{1, 1}
	for len(list) < n {
		list = append(list, list[len(list)-1]+list[len(list)-2])
	}
	return list
}

// trees are counts of two symbols at least.
func trees() [][]int {
	const most = api.MaxCount
	list := [][]int{
		{1, 1}, {1, 1, 1}, {5, 1, 2, 1}, {0, 3, 0, 3}, {3, 0, 3, 0, 0}, {1, 1, 1, 1, 1}, {1, 1, 2, 2}, {2, 2, 1, 1}, {1, 1, 1, 1, 2, 2, 4}, {4, 2, 2, 1, 1, 1, 1}, {1, 1, 2, 3, 3}, {3, 3, 2, 1, 1},
		{most - 1, 1}, {1, most - 1}, {most / 2, most / 2}, {most / 4, most / 4, most / 4, most / 4}, {most - 5, 1, 1, 1, 1, 1},
		samples.Full(256, 1), samples.Full(256, most/256), samples.Full(255, 7), samples.Full(129, 1),
		samples.Behind(samples.Full(254, 0), 1, 1), samples.Behind([]int{9}, samples.Behind(samples.Full(254, 0), 9)...), samples.Behind(samples.Full(255, 1), 1<<30), samples.Behind([]int{1 << 30}, samples.Full(255, 1)...),
	}
	// Chains: 12 symbols have depths up to 11, and more symbols greater ones.
	for n := 2; n <= 40; n++ {
		list = append(list, powers(2, n), fibonacci(n), samples.Behind(samples.Full(n, 0), fibonacci(n)...))
	}
	for n := 2; n <= 25; n++ {
		list = append(list, powers(3, n))
	}
	chance := rand.New(rand.NewSource(13))
	for i := range 400 {
		l := make([]int, 2+chance.Intn([]int{4, 20, 60, 255}[i%4]))
		for s := range l {
			if chance.Intn(4) > 0 {
				l[s] = chance.Intn(1 + 1<<chance.Intn(1+i%33))
			}
		}
		l[0]++
		l[len(l)-1]++
		list = append(list, l)
	}
	return list
}

// judged is an argument, and the error that it has.
type judged struct {
	list []int
	err  api.Errno
}

// wrongCounts are counts that have no tree.
func wrongCounts() []judged {
	const most = api.MaxCount
	return []judged{
		{nil, api.ErrMissing}, {[]int{0}, api.ErrMissing}, {[]int{5}, api.ErrMissing}, {[]int{0, 0, most}, api.ErrMissing}, {samples.Full(256, 0), api.ErrMissing}, {samples.Behind(samples.Full(255, 0), 3), api.ErrMissing},
		{[]int{-1}, api.ErrRange}, {[]int{-1, 5}, api.ErrRange}, {[]int{5, 5, -1}, api.ErrRange}, {[]int{math.MinInt, 1}, api.ErrRange}, {[]int{math.MaxInt}, api.ErrRange}, {[]int{math.MaxInt, math.MaxInt, 2}, api.ErrRange},
		{[]int{most + 1}, api.ErrRange}, {[]int{most, 1}, api.ErrRange}, {[]int{1, most}, api.ErrRange}, {[]int{most / 2, most / 2, 1}, api.ErrRange}, {samples.Behind(samples.Full(255, 1), -1), api.ErrRange},
		{samples.Full(257, 0), api.ErrFull}, {samples.Full(257, 1), api.ErrFull}, {samples.Full(257, -1), api.ErrFull}, {samples.Full(1000, most), api.ErrFull},
	}
}

// group is a node of the model: a leaf with its symbol, or what was joined at a time, with all symbols below it.
type group struct {
	count, time, symbol int
	symbols             []int
}

// comesBefore orders nodes by the words of the chapter.
func comesBefore(a, b group) int {
	if a.count != b.count {
		return cmp.Compare(a.count, b.count)
	}
	// Leaves have the time 0.
	if a.time != b.time {
		return cmp.Compare(a.time, b.time)
	}
	return cmp.Compare(a.symbol, b.symbol)
}

// modelDepths joins groups, and counts for each symbol how often that happens to it.
func modelDepths(counts []int) []int {
	depths := make([]int, len(counts))
	var groups []group
	for symbol, count := range counts {
		if count > 0 {
			groups = append(groups, group{count: count, symbol: symbol, symbols: []int{symbol}})
		}
	}
	for time := 1; len(groups) > 1; time++ {
		slices.SortFunc(groups, comesBefore)
		all := append(slices.Clone(groups[0].symbols), groups[1].symbols...)
		for _, symbol := range all {
			depths[symbol]++
		}
		groups = append(groups[2:], group{count: groups[0].count + groups[1].count, time: time, symbols: all})
	}
	return depths
}

// modelOf halves counts until their tree is low enough. It also tells how often.
func modelOf(counts []int) (lengths []int, halved int) {
	lengths = modelDepths(counts)
	if slices.Max(lengths) <= 11 {
		return lengths, 0
	}
	halves := make([]int, len(counts))
	for i, count := range counts {
		halves[i] = count - count/2
	}
	lengths, halved = modelOf(halves)
	return lengths, halved + 1
}

// roomOf is the sum of 2^(11 - length) over the symbols that have codes.
func roomOf(lengths []int) int {
	room := 0
	for _, length := range lengths {
		if length > 0 {
			room += int(math.Pow(2, float64(11-length)))
		}
	}
	return room
}

// of is the result of Of, where there must be one.
func of(t *testing.T, counts []int) []int {
	t.Helper()
	l, err := length.Of(counts)
	if err != api.OK {
		t.Fatalf("Of(%v): %v", counts, err)
	}
	return l
}

// depths is the result of Depths, where there must be one.
func depths(t *testing.T, counts []int) []int {
	t.Helper()
	l, err := length.Depths(counts)
	if err != api.OK {
		t.Fatalf("Depths(%v): %v", counts, err)
	}
	return l
}

// total is the result of Total, where there must be one.
func total(t *testing.T, counts, lengths []int) int {
	t.Helper()
	n, err := length.Total(counts, lengths)
	if err != api.OK {
		t.Fatalf("Total(%v, %v): %v", counts, lengths, err)
	}
	return n
}
