package length_test

import (
	"slices"
	"testing"

	"cheesepress/api"
	"cheesepress/length"
	"cheesepress/samples"
)

// P13.4: the lengths of counts are complete, and just the symbols that occur have codes.
func TestLengthsAreComplete(t *testing.T) {
	for _, counts := range trees() {
		lengths := of(t, counts)
		if err := length.Check(lengths); err != api.OK || roomOf(lengths) != 2048 || len(lengths) != len(counts) {
			t.Errorf("Of(%v) = %v: %v", counts, lengths, err)
		}
		for symbol, count := range counts {
			if (count > 0) != (lengths[symbol] > 0) {
				t.Errorf("Of(%v) = %v", counts, lengths)
			}
		}
	}
}

// low are trees of which no depth is above 11, with counts for which each Total is within bounds.
func low(t *testing.T) [][]int {
	t.Helper()
	list := slices.DeleteFunc(trees(), func(counts []int) bool {
		sum := 0
		for _, count := range counts {
			sum += count
		}
		return 11*sum > api.MaxCount || slices.Max(modelDepths(counts)) > 11
	})
	if len(list) < 300 {
		t.Fatalf("just %d trees are low", len(list))
	}
	return list
}

// complete adds to a list all complete lengths of n symbols that begin with those given, which leave so much room.
func complete(list [][]int, begin []int, n, room int) [][]int {
	if n == 0 || room == 0 {
		if n == 0 && room == 0 {
			list = append(list, slices.Clone(begin))
		}
		return list
	}
	for l := 1; l <= 11; l++ {
		if size := 2048 >> l; size <= room {
			list = complete(list, append(begin, l), n-1, room-size)
		}
	}
	return list
}

// P13.5: no complete lengths have a lesser Total: all of those that there are for a few symbols.
func TestNoneIsBetterOfAll(t *testing.T) {
	all := map[int][][]int{}
	for n := 2; n <= 6; n++ {
		all[n] = complete(nil, nil, n, 2048)
	}
	compared := 0
	for _, counts := range low(t) {
		counts = slices.DeleteFunc(slices.Clone(counts), func(count int) bool { return count == 0 })
		best := -1
		for _, lengths := range all[len(counts)] {
			if n := total(t, counts, lengths); best < 0 || n < best {
				best = n
			}
			compared++
		}
		if n := total(t, counts, of(t, counts)); best >= 0 && n != best {
			t.Errorf("Of(%v) has %d bits, and there are lengths with %d", counts, n, best)
		}
	}
	if compared < 5000 {
		t.Errorf("just %d lengths were compared", compared)
	}
}

// P13.5: not with two lengths exchanged, and not those of other counts of the same symbols.
func TestNoneIsBetter(t *testing.T) {
	list := low(t)
	others := 0
	for i, counts := range list {
		lengths := of(t, counts)
		best := total(t, counts, lengths)
		for a := range lengths {
			b := (a*7 + i) % len(lengths)
			if lengths[a] == 0 || lengths[b] == 0 {
				continue
			}
			exchanged := slices.Clone(lengths)
			exchanged[a], exchanged[b] = exchanged[b], exchanged[a]
			if n := total(t, counts, exchanged); n < best {
				t.Errorf("Of(%v) has %d bits, and %v has %d", counts, best, exchanged, n)
			}
		}
		for _, other := range list {
			if n, err := length.Total(counts, of(t, other)); err == api.OK {
				others++
				if n < best {
					t.Errorf("Of(%v) has %d bits, and that of %v has %d", counts, best, other, n)
				}
			}
		}
	}
	if others < 1000 {
		t.Errorf("just %d other lengths cover counts", others)
	}
}

// P13.6: a symbol that occurs more often has no longer code.
func TestOftenIsShort(t *testing.T) {
	for _, counts := range low(t) {
		lengths := of(t, counts)
		for a := range counts {
			for b := range counts {
				if counts[a] > counts[b] && counts[b] > 0 && lengths[a] > lengths[b] {
					t.Errorf("Of(%v) = %v: %d is longer than %d", counts, lengths, a, b)
				}
			}
		}
	}
}

// P13.7: counts that are all doubled have the same depths.
func TestDoubled(t *testing.T) {
	for _, counts := range append(trees(), samples.Full(256, 1<<31)) {
		doubled, sum := slices.Clone(counts), 0
		for i, count := range counts {
			doubled[i] = 2 * count
			sum += 2 * count
		}
		if sum > api.MaxCount {
			continue
		}
		if a, b := depths(t, counts), depths(t, doubled); !slices.Equal(a, b) {
			t.Errorf("Depths(%v) = %v, and doubled %v", counts, a, b)
		}
	}
}
