package counts_test

import (
	"math"
	"math/rand"
	"slices"
	"strings"
	"testing"

	"cheesepress/api"
	"cheesepress/counts"
)

// full are n counts of which each is count.
func full(n, count int) []int {
	return slices.Repeat([]int{count}, n)
}

// right are counts that are right.
func right() [][]int {
	list := [][]int{
		nil, {}, {0}, {1}, {5}, {0, 5}, {5, 0}, {0, 0}, {1, 1}, {2, 2, 2}, {1, 2, 3}, {3, 2, 1}, {0, 3, 0, 3, 1}, {7, 0, 0},
		{api.MaxCount}, {0, api.MaxCount, 0}, {api.MaxCount - 1, 1}, {1 << 39, 1 << 39}, {api.MaxCount - 2, 1, 0, 1},
		full(255, 1), full(256, 0), full(256, 1), full(256, api.MaxCount/256), append(full(255, 0), 9), append(full(254, 3), 4, 3),
	}
	chance := rand.New(rand.NewSource(6))
	for range 100 {
		l := make([]int, chance.Intn(257))
		for i := range l {
			l[i] = max(0, chance.Intn(12)-4)
		}
		list = append(list, l)
	}
	return list
}

// wrong are counts that are not right, each with its error.
func wrong() []struct {
	counts []int
	err    api.Errno
} {
	return []struct {
		counts []int
		err    api.Errno
	}{
		{[]int{-1}, api.ErrRange},
		{[]int{math.MinInt}, api.ErrRange},
		{[]int{1, -1}, api.ErrRange},
		{[]int{5, -1, 5}, api.ErrRange},
		{append(full(255, 1), -1), api.ErrRange},
		{[]int{api.MaxCount + 1}, api.ErrRange},
		{[]int{math.MaxInt}, api.ErrRange},
		{[]int{math.MaxInt, math.MaxInt, 2}, api.ErrRange},
		{[]int{api.MaxCount, 0, 1}, api.ErrRange},
		{[]int{1 << 39, 1 << 39, 1}, api.ErrRange},
		{append(full(255, api.MaxCount/256), api.MaxCount/256+1), api.ErrRange},
		{full(257, 0), api.ErrFull},
		{full(257, -1), api.ErrFull},
		{full(257, api.MaxCount), api.ErrFull},
		{full(1000, 1), api.ErrFull},
	}
}

// symbolsOf are the bytes of s as symbols.
func symbolsOf(s string) []int {
	l := make([]int, len(s))
	for i := range len(s) {
		l[i] = int(s[i])
	}
	return l
}

// texts are strings whose bytes are counted.
func texts() []string {
	list := []string{"", "a", "aa", "ab", "ba", "aab", "aba", "\x00", "\xff\xff", "\x00\xff\x00", "abracadabra", strings.Repeat("z", 1000), strings.Repeat("z", 999) + "y"}
	chance := rand.New(rand.NewSource(7))
	for n := range 40 {
		b := make([]byte, 20*n)
		chance.Read(b)
		list = append(list, string(b))
	}
	return list
}

// bytes counts where that must succeed.
func bytes(t *testing.T, s string) []int {
	t.Helper()
	l, err := counts.Bytes(s)
	if err != api.OK {
		t.Fatalf("Bytes of %d bytes: %v", len(s), err)
	}
	return l
}
