package weight_test

import (
	"encoding/hex"
	"math"
	"math/rand"
	"slices"
	"strings"
	"testing"

	"cheesepress/api"
	"cheesepress/samples"
	"cheesepress/weight"
)

// lengthsEnding are complete lengths, without zeros at the end.
func lengthsEnding() [][]int {
	list := samples.Lengths()
	for i, lengths := range list {
		for lengths[len(lengths)-1] == 0 {
			lengths = lengths[:len(lengths)-1]
		}
		list[i] = lengths
	}
	return list
}

// judged is a list, and the error that it has.
type judged struct {
	list []int
	err  api.Errno
}

// wrongLengths are lengths that are not right.
func wrongLengths() []judged {
	list := []judged{{[]int{1, 0}, api.ErrTree}, {[]int{0, 0}, api.ErrTree}, {[]int{0, 1}, api.ErrTree}, {[]int{0, 11}, api.ErrTree}, {[]int{1, 1, 0}, api.ErrTree}}
	for _, c := range samples.WrongLengths() {
		list = append(list, judged{c.Lengths, errorOf(c.Lengths, 2, 256)})
	}
	for _, lengths := range lengthsEnding() {
		if len(lengths) < 256 {
			list = append(list, judged{samples.Behind(lengths, 0), api.ErrTree})
		}
		list = append(list, judged{samples.Behind(lengths, 12), errorOf(samples.Behind(lengths, 12), 2, 256)})
	}
	return list
}

// errorOf is what is wrong with a list that is not right: how long it is, then a number of it, then the rest.
func errorOf(list []int, least, most int) api.Errno {
	if len(list) < least || len(list) > most {
		return api.ErrLong
	}
	for _, n := range list {
		if n < 0 || n > 11 {
			return api.ErrRange
		}
	}
	return api.ErrTree
}

// power is 2^n.
func power(n int) int {
	return int(math.Pow(2, float64(n)))
}

// modelImplied looks for the implied weight among all that there are.
func modelImplied(listed []int) (implied, most int, err api.Errno) {
	if wrong := errorOf(listed, 1, 255); wrong != api.ErrTree {
		return 0, 0, wrong
	}
	sum := 0
	for _, w := range listed {
		if w > 0 {
			sum += power(w - 1)
		}
	}
	for power(most) <= sum {
		most++
	}
	for implied = 1; sum > 0 && most <= 11 && implied <= 11; implied++ {
		if sum+power(implied-1) == power(most) {
			return implied, most, api.OK
		}
	}
	return 0, 0, api.ErrTree
}

// modelWeights are the weights of right lengths.
func modelWeights(lengths []int) []int {
	var weights []int
	for _, length := range lengths {
		w := 0
		if length > 0 {
			w = slices.Max(lengths) + 1 - length
		}
		weights = append(weights, w)
	}
	return weights
}

// modelDirect is the direct description of weights, made of hexadecimal digits.
func modelDirect(listed []int) string {
	var digits strings.Builder
	for _, w := range listed {
		digits.WriteByte("0123456789abcdef"[w])
	}
	if len(listed)%2 > 0 {
		digits.WriteByte('0')
	}
	b, err := hex.DecodeString(digits.String())
	if err != nil {
		panic(err)
	}
	return string(append([]byte{byte(127 + len(listed))}, b...))
}

// lists are lists that may be listed weights: all short ones, and some that look like chance.
func lists() [][]int {
	list := [][]int{nil}
	for from := 0; len(list[from]) < 3; from++ {
		for w := -1; w <= 12; w++ {
			list = append(list, samples.Behind(list[from], w))
		}
	}
	chance := rand.New(rand.NewSource(14))
	for i := range 20000 {
		l := make([]int, 1+chance.Intn([]int{4, 8, 30, 258}[i%4]))
		for j := range l {
			l[j] = chance.Intn(1 + chance.Intn(4+i%8))
		}
		list = append(list, l)
	}
	for n := 250; n <= 260; n++ {
		for w := -1; w <= 12; w++ {
			list = append(list, samples.Full(n, w), samples.Behind(samples.Full(n, 0), w))
		}
	}
	for _, w := range []int{math.MinInt, -64, 13, 62, 63, 64, 65, math.MaxInt} {
		list = append(list, []int{w}, []int{1, w}, samples.Behind(samples.Full(255, 1), w))
	}
	return list
}

// rightListed are listed weights that are right.
func rightListed() [][]int {
	list := slices.DeleteFunc(lists(), func(l []int) bool {
		_, _, err := modelImplied(l)
		return err != api.OK
	})
	for _, lengths := range lengthsEnding() {
		list = append(list, modelWeights(lengths)[:len(lengths)-1])
	}
	return list
}

// listed is the result of Listed, where there must be one.
func listed(t *testing.T, lengths []int) []int {
	t.Helper()
	l, err := weight.Listed(lengths)
	if err != api.OK {
		t.Fatalf("Listed(%v): %v", lengths, err)
	}
	return l
}

// lengths is the result of Lengths, where there must be one.
func lengths(t *testing.T, listed []int) []int {
	t.Helper()
	l, err := weight.Lengths(listed)
	if err != api.OK {
		t.Fatalf("Lengths(%v): %v", listed, err)
	}
	return l
}
