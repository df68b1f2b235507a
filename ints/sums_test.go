package ints_test

import (
	"math"
	"math/big"
	"slices"
	"testing"

	"cheesepress/api"
	"cheesepress/ints"
)

// exact returns what a sum or product has to be: the exact number, if it and its arguments are counts.
func exact(result *big.Int, arguments ...int) (int, api.Errno) {
	most := big.NewInt(api.MaxCount)
	for _, n := range arguments {
		if n < 0 || n > api.MaxCount {
			return 0, api.ErrRange
		}
	}
	if result.Cmp(most) > 0 {
		return 0, api.ErrRange
	}
	return int(result.Int64()), api.OK
}

// P1.4, P1: Plus and Times against exact numbers, also where an int would overflow.
func TestPlusTimes(t *testing.T) {
	for _, a := range edges() {
		for _, b := range edges() {
			x, y := big.NewInt(int64(a)), big.NewInt(int64(b))
			want, err := exact(new(big.Int).Add(x, y), a, b)
			if got, e := ints.Plus(a, b); got != want || e != err {
				t.Errorf("Plus(%d, %d) = %d, %v, not %d, %v", a, b, got, e, want, err)
			}
			want, err = exact(new(big.Int).Mul(x, y), a, b)
			if got, e := ints.Times(a, b); got != want || e != err {
				t.Errorf("Times(%d, %d) = %d, %v, not %d, %v", a, b, got, e, want, err)
			}
		}
	}
}

// P1.4: the chapter's examples, and 0 times a number that is no count.
func TestPlusTimesExamples(t *testing.T) {
	const most = api.MaxCount
	for _, c := range []struct {
		name string
		f    func(a, b int) (int, api.Errno)
		a, b int
		want int
		err  api.Errno
	}{
		{"Plus", ints.Plus, most, 0, most, api.OK},
		{"Plus", ints.Plus, most, 1, 0, api.ErrRange},
		{"Plus", ints.Plus, -1, 1, 0, api.ErrRange},
		{"Plus", ints.Plus, most + 1, -1, 0, api.ErrRange},
		{"Times", ints.Times, 1 << 20, 1 << 20, most, api.OK},
		{"Times", ints.Times, 1 << 20, 1<<20 + 1, 0, api.ErrRange},
		{"Times", ints.Times, 0, most + 1, 0, api.ErrRange},
		{"Times", ints.Times, most + 1, 0, 0, api.ErrRange},
		{"Times", ints.Times, 0, -1, 0, api.ErrRange},
		{"Times", ints.Times, -1, -1, 0, api.ErrRange},
		{"Times", ints.Times, 1 << 32, 1 << 32, 0, api.ErrRange},
	} {
		if got, err := c.f(c.a, c.b); got != c.want || err != c.err {
			t.Errorf("%s(%d, %d) = %d, %v", c.name, c.a, c.b, got, err)
		}
	}
}

// P1.4: Sum, with the chapter's examples, and lists whose sums overflow an int.
func TestSum(t *testing.T) {
	const most = api.MaxCount
	for _, c := range []struct {
		l    []int
		want int
		err  api.Errno
	}{
		{[]int{1, 2, 3}, 6, api.OK},
		{nil, 0, api.OK},
		{[]int{}, 0, api.OK},
		{[]int{0, 0}, 0, api.OK},
		{[]int{most}, most, api.OK},
		{[]int{most - 1, 1, 0}, most, api.OK},
		{[]int{most, 1}, 0, api.ErrRange},
		{[]int{most - 1, 1, 1}, 0, api.ErrRange},
		{[]int{most + 1}, 0, api.ErrRange},
		{[]int{-1}, 0, api.ErrRange},
		{[]int{5, -1}, 0, api.ErrRange},
		{[]int{most, 1, -1}, 0, api.ErrRange},
		{[]int{math.MaxInt, math.MaxInt, 2}, 0, api.ErrRange},
		{[]int{math.MinInt, math.MinInt}, 0, api.ErrRange},
	} {
		if got, err := ints.Sum(c.l); got != c.want || err != c.err {
			t.Errorf("Sum(%v) = %d, %v", c.l, got, err)
		}
	}
}

// P1.4: a list is not changed by its sum.
func TestSumKeepsList(t *testing.T) {
	l := []int{3, 1, 2}
	ints.Sum(l)
	if !slices.Equal(l, []int{3, 1, 2}) {
		t.Errorf("the list is %v", l)
	}
}

// P1.7: the order of two numbers does not matter.
func TestOrderOfNumbers(t *testing.T) {
	for _, a := range edges() {
		for _, b := range edges() {
			sum, err := ints.Plus(a, b)
			if other, e := ints.Plus(b, a); other != sum || e != err {
				t.Errorf("Plus(%d, %d) = %d, %v, the other way %d, %v", a, b, sum, err, other, e)
			}
			product, err := ints.Times(a, b)
			if other, e := ints.Times(b, a); other != product || e != err {
				t.Errorf("Times(%d, %d) = %d, %v, the other way %d, %v", a, b, product, err, other, e)
			}
		}
	}
}

// P1.7: a product of a sum is the sum of the products.
func TestTimesOfSum(t *testing.T) {
	numbers := []int{0, 1, 2, 3, 7, 300, 1 << 10, 1<<19 - 1, 1 << 20, 1<<39 - 1, 1 << 39}
	tried := 0
	for _, a := range numbers {
		for _, b := range numbers {
			for _, c := range numbers {
				sum, e := ints.Plus(a, b)
				whole, f := ints.Times(sum, c)
				if e != api.OK || f != api.OK {
					continue
				}
				tried++
				first, e := ints.Times(a, c)
				second, f := ints.Times(b, c)
				both, g := ints.Plus(first, second)
				if e != api.OK || f != api.OK || g != api.OK || both != whole {
					t.Errorf("(%d + %d) * %d = %d, but %d + %d = %d", a, b, c, whole, first, second, both)
				}
			}
		}
	}
	if tried < len(numbers)*len(numbers) {
		t.Errorf("only %d sums were within bounds", tried)
	}
}

// P1.7: the sum of two lists together is that of both sums.
func TestSumOfLists(t *testing.T) {
	lists := [][]int{nil, {0}, {1, 2, 3}, {api.MaxCount}, {api.MaxCount - 6}, {1 << 39, 1 << 39}, {1 << 38, 7, 0}, {-1}, {api.MaxCount + 1}}
	for _, a := range lists {
		for _, b := range lists {
			first, e := ints.Sum(a)
			second, f := ints.Sum(b)
			want, err := ints.Plus(first, second)
			if e != api.OK || f != api.OK {
				want, err = 0, api.ErrRange
			}
			if got, g := ints.Sum(slices.Concat(a, b)); got != want || g != err {
				t.Errorf("Sum(%v and %v) = %d, %v, not %d, %v", a, b, got, g, want, err)
			}
		}
	}
}
