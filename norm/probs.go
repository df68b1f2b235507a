package norm

import (
	"cmp"
	"iter"
	"math"
	"math/bits"

	"cheesepress/api"
	"cheesepress/counts"
)

// pairs goes through the symbols that have a count, and their counts.
func pairs(l []int) iter.Seq2[int, int] {
	return func(yield func(symbol, count int) bool) {
		for symbol, count := range l {
			if count > 0 && !yield(symbol, count) {
				return
			}
		}
	}
}

// shares returns which part of size the count of each symbol is, up to the last one that has a count.
func shares(l []int, size int) ([]int, api.Errno) {
	total, _ := counts.Total(l)
	last, _ := counts.Last(l)
	probs := make([]int, last+1)
	for symbol, count := range pairs(l) {
		product, err := times(count, size)
		if err != api.OK {
			return nil, err
		}
		probs[symbol] = product / total
		if probs[symbol] == 0 {
			probs[symbol] = less
		}
	}
	return probs, api.OK
}

// times returns a times b, none of which is below 0. A product may be greater than ints.Times allows, but an int must hold it.
func times(a, b int) (int, api.Errno) {
	high, low := bits.Mul64(uint64(a), uint64(b))
	if high > 0 || low > math.MaxInt {
		return 0, api.ErrRange
	}
	return int(low), api.OK
}

// settle makes the points of all probabilities size: what is missing goes to the greatest count, and what is too much comes from the greatest probabilities.
func settle(probs, l []int, size int) {
settling:
	for {
		missing := size - points(probs)
		switch {
		case missing > 0:
			symbol := greatest(l, cmp.Compare[int])
			probs[symbol] = worth(probs[symbol]) + missing
		case missing < 0:
			probs[greatest(probs, cmp.Compare[int])]--
		default:
			break settling
		}
	}
}

// greatest returns the place of the first of the greatest elements.
func greatest[T any](list []T, compare func(a, b T) int) int {
	best := 0
	for i, element := range list {
		if compare(element, list[best]) > 0 {
			best = i
		}
	}
	return best
}

// worth returns how many points a probability counts.
func worth(prob int) int {
	if prob == less {
		return 1
	}
	return prob
}

func points(probs []int) int {
	sum := 0
	for _, prob := range probs {
		sum += worth(prob)
	}
	return sum
}
