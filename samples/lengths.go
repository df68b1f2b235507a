package samples

import (
	"math"
	"slices"

	"cheesepress/api"
)

// SpoiltLengths are lengths of Huffman codes that are not complete, and what is wrong with them, as layer 13 calls it.
type SpoiltLengths struct {
	Lengths []int
	Err     api.Errno
}

// Lengths returns lengths of Huffman codes that are complete.
func Lengths() [][]int {
	list := [][]int{
		{1, 1}, {0, 1, 1}, {1, 0, 1}, {1, 1, 0}, {0, 0, 1, 0, 0, 1, 0}, {1, 2, 2}, {2, 1, 2}, {2, 2, 1}, {1, 2, 3, 3}, {1, 3, 2, 3}, {3, 3, 2, 1},
		Full(4, 2), Full(8, 3), Full(128, 7), Full(256, 8), Behind(Full(127, 7), 8, 8), Behind([]int{8, 7, 9, 9}, Full(252, 8)...),
		Behind(Full(200, 0), 1, 1), Behind(Full(254, 0), 1, 1), Behind([]int{1, 1}, Full(254, 0)...), Behind(Behind([]int{1}, Full(254, 0)...), 1),
		Behind([]int{1}, Full(128, 8)...), Behind(Full(128, 8), 1), Behind([]int{1, 2, 3, 4}, Full(128, 11)...),
	}
	for n := 4; n <= api.MaxHuf+1; n++ {
		up := chain(n)
		down := slices.Clone(up)
		slices.Reverse(down)
		list = append(list, up, down, Behind(Behind(Full(n, 0), up...), 0, 0))
	}
	var d dice
	for range chance {
		list = append(list, d.lengths())
	}
	return list
}

// chain returns the lengths of n codes, each one bit longer than the one before it, but for the last one.
func chain(n int) []int {
	var lengths []int
	for length := 1; length < n; length++ {
		lengths = append(lengths, length)
	}
	return append(lengths, n-1)
}

// WrongLengths returns lengths that are not complete.
func WrongLengths() []SpoiltLengths {
	list := []SpoiltLengths{
		{nil, api.ErrMissing},
		{[]int{0}, api.ErrMissing},
		{[]int{1}, api.ErrMissing},
		{[]int{11}, api.ErrMissing},
		{[]int{0, 0, 5, 0}, api.ErrMissing},
		{Full(256, 0), api.ErrMissing},
		{Full(257, 0), api.ErrFull},
		{Full(257, 1), api.ErrFull},
		{Full(257, 12), api.ErrFull},
		{Behind(Full(256, 8), 0), api.ErrFull},
		{Full(1000, -1), api.ErrFull},
		{[]int{1, 2}, api.ErrTree},
		{[]int{2, 2}, api.ErrTree},
		{[]int{1, 1, 1}, api.ErrTree},
		{[]int{1, 1, 11}, api.ErrTree},
		{[]int{1, 2, 3, 4}, api.ErrTree},
		{[]int{11, 11}, api.ErrTree},
		{Full(255, 8), api.ErrTree},
		{Full(256, 1), api.ErrTree},
		{Full(256, 7), api.ErrTree},
		{Full(256, 9), api.ErrTree},
		{Full(256, 11), api.ErrTree},
	}
	for _, length := range []int{math.MinInt, -64, -1, 12, 13, 63, 64, 75, math.MaxInt} {
		list = append(list, SpoiltLengths{[]int{length}, api.ErrRange}, SpoiltLengths{[]int{length, length}, api.ErrRange},
			SpoiltLengths{[]int{1, 1, length}, api.ErrRange}, SpoiltLengths{Behind([]int{length}, Full(255, 8)...), api.ErrRange})
	}
	// Lengths that are complete are not with a code more, or with a bit more or less of one.
	for _, right := range Lengths() {
		for i, length := range right[:min(len(right), 20)] {
			for _, other := range []int{length - 1, length + 1} {
				if other > 0 && other <= api.MaxHuf {
					spoilt := slices.Clone(right)
					spoilt[i] = other
					list = append(list, SpoiltLengths{spoilt, api.ErrTree})
				}
			}
		}
	}
	return list
}

// lengths returns complete lengths, with zeros among them.
func (d *dice) lengths() []int {
	lengths := []int{1, 1}
	for range d.below(1 << (1 + d.below(8))) {
		if i := d.below(len(lengths)); len(lengths) < api.MaxSymbols && lengths[i] < api.MaxHuf {
			lengths[i]++
			lengths = append(lengths, lengths[i])
		}
	}
	most := d.below(api.MaxSymbols + 1 - len(lengths))
	for range most {
		if d.below(4) == 0 {
			lengths = append(lengths, 0)
		}
	}
	for i := range lengths {
		j := d.below(i + 1)
		lengths[i], lengths[j] = lengths[j], lengths[i]
	}
	return lengths
}
