package norm_test

import (
	"math"
	"math/big"
	"math/rand"
	"slices"

	"cheesepress/api"
	"cheesepress/norm"
)

// full are n counts of which each is count.
func full(n, count int) []int {
	return slices.Repeat([]int{count}, n)
}

// behind are counts, and others behind them.
func behind(l []int, more ...int) []int {
	return append(slices.Clone(l), more...)
}

// lists are counts that are right, and not all 0.
func lists() [][]int {
	const most = api.MaxCount
	list := [][]int{
		{1}, {2}, {7}, {0, 1}, {0, 0, 9, 0}, {most}, {0, 0, most}, {1, 1}, {100}, {3, 1}, {1, 0, 1, 1}, {5000, 5000}, {1000, 1, 1},
		{most - 1, 1}, {1, most - 1}, {most / 2, most / 2}, {most/3 + 1, most / 3, most / 3}, {1, 2, 4, 8, 16, 32, 64},
		{5, 5, 5}, {1, 5, 5, 1}, {0, 40, 1, 39, 1}, {2, 2, 2, 1, 1, 1},
		behind([]int{10}, full(31, 1)...), behind(full(31, 1), 10), behind([]int{1000, 900}, full(30, 1)...), full(32, 1), full(32, 7), full(33, 1), full(64, 1), full(65, 1),
		full(128, 1), full(129, 2), full(255, 3), full(256, 1), full(256, most/256), behind([]int{1 << 30}, full(255, 1)...), behind(full(255, 1), 1<<30), behind([]int{300, 300, 200}, full(253, 1)...),
	}
	for bits := range 15 {
		for _, total := range []int{1<<bits - 1, 1 << bits, 1<<bits + 1, 1<<bits + 2} {
			list = append(list, []int{total, 0, 1}, []int{total + 1})
		}
	}
	chance := rand.New(rand.NewSource(5))
	for i := range 400 {
		l := make([]int, 1+chance.Intn([]int{4, 20, 60, 256}[i%4]))
		for s := range l {
			if chance.Intn(4) > 0 {
				l[s] = chance.Intn(1 + 1<<chance.Intn(16))
			}
		}
		l[chance.Intn(len(l))]++
		list = append(list, l)
	}
	return list
}

// wrong are counts that have no distribution, each with its error.
func wrong() []struct {
	l   []int
	err api.Errno
} {
	return []struct {
		l   []int
		err api.Errno
	}{
		{nil, api.ErrMissing},
		{[]int{0}, api.ErrMissing},
		{[]int{0, 0}, api.ErrMissing},
		{full(256, 0), api.ErrMissing},
		{[]int{-1}, api.ErrRange},
		{[]int{5, -1}, api.ErrRange},
		{[]int{math.MinInt}, api.ErrRange},
		{[]int{math.MaxInt, 1}, api.ErrRange},
		{[]int{api.MaxCount, 1}, api.ErrRange},
		{full(257, 0), api.ErrFull},
		{full(257, -1), api.ErrFull},
	}
}

// totalOf and distinctOf are n and d of the chapter.
func totalOf(l []int) int {
	sum := 0
	for _, count := range l {
		sum += count
	}
	return sum
}

func distinctOf(l []int) int {
	return len(l) - len(slices.DeleteFunc(slices.Clone(l), func(count int) bool { return count != 0 }))
}

// isAccuracy tells whether With has a distribution with it for so many symbols.
func isAccuracy(log, distinct int) bool {
	return log >= 5 && log <= 12 && distinct <= 1<<log
}

// pointsOf is the sum of probabilities, -1 counted as 1.
func pointsOf(probs []int) int {
	sum := 0
	for _, p := range probs {
		if p == -1 {
			p = 1
		}
		sum += p
	}
	return sum
}

// first is the place of the first greatest number.
func first(l []int) int {
	return slices.Index(l, slices.Max(l))
}

// modelProbs are the probabilities that the chapter describes, step by step, with exact products.
func modelProbs(l []int, log int) []int {
	size := 1 << log
	probs := make([]int, len(l))
	for symbol, count := range l {
		product := new(big.Int).Mul(big.NewInt(int64(count)), big.NewInt(int64(size)))
		probs[symbol] = int(product.Div(product, big.NewInt(int64(totalOf(l)))).Int64())
		if probs[symbol] == 0 && count != 0 {
			probs[symbol] = -1
		}
	}
	if sum := pointsOf(probs); sum < size {
		symbol := first(l)
		if probs[symbol] == -1 {
			probs[symbol] = 1
		}
		probs[symbol] += size - sum
	}
	for pointsOf(probs) > size {
		probs[first(probs)]--
	}
	for l[len(probs)-1] == 0 {
		probs = probs[:len(probs)-1]
	}
	return probs
}

// modelLog is the accuracy that the chapter describes.
func modelLog(l []int, most int) int {
	log := 5
	for 1<<log <= distinctOf(l) {
		log++
	}
	for totalOf(l) > 1 && 1<<(log+3) <= totalOf(l)-1 {
		log++
	}
	return min(log, most)
}

// same tells whether a distribution has this accuracy and these probabilities.
func same(d api.Dist, log int, probs []int) bool {
	return d.Log == log && slices.Equal(d.Probs, probs)
}

// none tells whether a distribution is the zero value.
func none(d api.Dist) bool {
	return same(d, 0, nil)
}

// accuracies are numbers that are an accuracy, and others.
func accuracies() []int {
	list := []int{math.MinInt, -1, 0, 1, 4}
	for log := 5; log <= 13; log++ {
		list = append(list, log)
	}
	return append(list, 63, 64, math.MaxInt)
}

// with calls With where that must succeed.
func with(l []int, log int) []int {
	d, err := norm.With(l, log)
	if err != api.OK {
		panic(err)
	}
	return d.Probs
}
