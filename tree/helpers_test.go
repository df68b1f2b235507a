package tree_test

import (
	"math/rand"
	"slices"
	"testing"

	"cheesepress/api"
	"cheesepress/counts"
	"cheesepress/dist"
	"cheesepress/fse"
	"cheesepress/norm"
	"cheesepress/samples"
	"cheesepress/tree"
	"cheesepress/weight"
)

// allLengths are lengths that are right for layer 14.
func allLengths() [][]int {
	list := [][]int{
		samples.Behind(samples.Full(127, 0), 1, 1), samples.Behind(samples.Full(128, 0), 1, 1), samples.Behind(samples.Full(254, 0), 1, 1),
		samples.Full(256, 8), samples.Behind(samples.Full(128, 0), samples.Full(128, 7)...), samples.Behind(samples.Full(127, 7), 8, 8),
	}
	for _, lengths := range samples.Lengths() {
		for lengths[len(lengths)-1] == 0 {
			lengths = lengths[:len(lengths)-1]
		}
		list = append(list, lengths)
	}
	return list
}

// wrongLengths are lengths that are not right for layer 14.
func wrongLengths() [][]int {
	list := [][]int{nil, {1}, {1, 0}, {0, 0}, {12, 1}, samples.Full(257, 8), {1, 1, 0}}
	for _, c := range samples.WrongLengths() {
		list = append(list, c.Lengths)
	}
	return list
}

// allListed are listed weights that are right.
func allListed() [][]int {
	list := [][]int{{1}, {2, 0, 0}, samples.Full(255, 4), samples.Full(255, 1), {11, 10, 9, 8, 7, 6, 5, 4, 3, 2, 1}}
	for _, lengths := range allLengths() {
		listed, _ := weight.Listed(lengths)
		list = append(list, listed)
	}
	return list
}

// content is a description by FSE, without its first byte: a distribution, and weights that are written with it.
func content(t *testing.T, d api.Dist, weights []int) string {
	t.Helper()
	head, err := dist.Write(d)
	if err != api.OK {
		t.Fatalf("Write(%v): %v", d, err)
	}
	stream, err := fse.WriteTwo(d, weights)
	if err != api.OK {
		t.Fatalf("WriteTwo(%v, %v): %v", d, weights, err)
	}
	return head + stream
}

// led is a string behind a byte with the number of its bytes.
func led(s string) string {
	return string([]byte{byte(len(s))}) + s
}

// modelFse is the FSE form of listed weights, if it is possible.
func modelFse(t *testing.T, listed []int) (form string, possible bool) {
	t.Helper()
	if len(slices.Compact(slices.Sorted(slices.Values(listed)))) < 2 {
		return "", false
	}
	of, _ := counts.Symbols(listed, 11)
	d, err := norm.Of(of, 6)
	if err != api.OK {
		t.Fatalf("Of(%v): %v", of, err)
	}
	form = content(t, d, listed)
	return led(form), len(form) <= 127
}

// modelDirect is the direct form of listed weights, if it is possible.
func modelDirect(listed []int) (form string, possible bool) {
	form, err := weight.Direct(listed)
	return form, err == api.OK
}

// modelRead reads a description from the words of the chapter.
func modelRead(s string, at int) (listed []int, next int, f api.Fault) {
	if at == len(s) {
		return nil, 0, api.Fault{Err: api.ErrShort, At: at}
	}
	h := int(s[at])
	if h >= 128 {
		return weight.ReadDirect(s, at)
	}
	end := at + 1 + h
	if end > len(s) {
		return nil, 0, api.Fault{Err: api.ErrShort, At: len(s)}
	}
	d, behind, f := dist.Read(s[:end], at+1, 6, 12)
	if f.Err != api.OK {
		return nil, 0, f
	}
	listed, err := fse.ReadTwo(d, s[behind:end])
	if err != api.OK {
		return nil, 0, api.Fault{Err: err, At: behind}
	}
	if weight.Right(listed) != api.OK {
		return nil, 0, api.Fault{Err: api.ErrTree, At: at}
	}
	return listed, end, api.Fault{}
}

// spoiltDescriptions are descriptions of which some bytes are changed.
func spoiltDescriptions(t *testing.T) []string {
	t.Helper()
	chance := rand.New(rand.NewSource(15))
	var list []string
	for _, listed := range allListed() {
		s, possible := modelFse(t, listed)
		if !possible {
			continue
		}
		for range 20 {
			b := []byte(s)
			for range 1 + chance.Intn(2) {
				b[1+chance.Intn(len(b)-1)] ^= 1 << chance.Intn(8)
			}
			list = append(list, string(b))
		}
	}
	return list
}

// written is the description of lengths, where there must be one.
func written(t *testing.T, lengths []int) string {
	t.Helper()
	s, err := tree.Write(lengths)
	if err != api.OK {
		t.Fatalf("Write(%v): %v", lengths, err)
	}
	return s
}

// readRefused checks that Read and Lengths have a fault, and nothing else.
func readRefused(t *testing.T, s string, at int, want api.Fault) {
	t.Helper()
	if l, next, f := tree.Read(s, at); l != nil || next != 0 || f != want {
		t.Errorf("Read(%x, %d) = %v, %d, %v, not %v", s, at, l, next, f, want)
	}
	if l, next, f := tree.Lengths(s, at); l != nil || next != 0 || f != want {
		t.Errorf("Lengths(%x, %d) = %v, %d, %v, not %v", s, at, l, next, f, want)
	}
}
