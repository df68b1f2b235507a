package xxh_test

import (
	"math"
	"strings"
	"testing"

	"cheesepress/api"
	"cheesepress/xxh"
)

// great is a valid state with so many bytes, of which none could be shown.
func great(total int) api.Hash {
	return api.Hash{Acc: [4]uint64{1, 2, 3, 4}, Total: total, Tail: strings.Repeat("x", total%32), Seed: 9}
}

// wrong are states that are not valid.
func wrong() []api.Hash {
	start := xxh.New(5)
	list := []api.Hash{{}, {Seed: 1}, {Total: 1, Tail: "a"}}
	change := func(from api.Hash, f func(*api.Hash)) {
		f(&from)
		list = append(list, from)
	}
	for _, total := range []int{-1, -32, -64, 1, 31, 33, 63, math.MinInt, math.MinInt + 31, math.MaxInt} {
		change(start, func(h *api.Hash) { h.Total = total })
	}
	for _, tail := range []string{"a", strings.Repeat("a", 31), strings.Repeat("a", 32), strings.Repeat("a", 64)} {
		change(start, func(h *api.Hash) { h.Tail = tail })
		change(great(32), func(h *api.Hash) { h.Tail = tail })
	}
	for i := range 4 {
		change(start, func(h *api.Hash) { h.Acc[i]++ })
		change(start, func(h *api.Hash) { h.Acc[i], h.Total, h.Tail = 0, 31, noise(31) })
	}
	change(start, func(h *api.Hash) { h.Seed++ })
	change(great(40), func(h *api.Hash) { h.Tail = h.Tail[1:] })
	change(great(40), func(h *api.Hash) { h.Tail += "a" })
	return append(list, great(api.MaxCount+32), great(api.MaxCount+1), great(math.MaxInt), great(math.MaxInt-31))
}

// P5.2: New, for every seed.
func TestNew(t *testing.T) {
	for _, seed := range seeds() {
		if got, want := xxh.New(seed), modelState("", seed); got != want {
			t.Errorf("New(%d) = %v, not %v", seed, got, want)
		}
	}
}

// P5.2: Check of states that are valid, and of others.
func TestCheck(t *testing.T) {
	for _, s := range texts() {
		for _, seed := range seeds() {
			if err := xxh.Check(modelState(s, seed)); err != api.OK {
				t.Errorf("Check behind %x = %v", s, err)
			}
		}
	}
	for _, total := range []int{32, 33, 63, 64, api.MaxCount - 33, api.MaxCount - 1, api.MaxCount} {
		if err := xxh.Check(great(total)); err != api.OK {
			t.Errorf("Check of a state with %d bytes = %v", total, err)
		}
	}
	for _, h := range wrong() {
		if err := xxh.Check(h); err != api.ErrState {
			t.Errorf("Check(%v) = %v", h, err)
		}
	}
}

// P5.2, P1: Add and Sum refuse states that are not valid, also where there would be too many bytes.
func TestWrongStates(t *testing.T) {
	for _, h := range wrong() {
		for _, s := range []string{"", "a", noise(100)} {
			if next, err := xxh.Add(h, s); next != (api.Hash{}) || err != api.ErrState {
				t.Errorf("Add(%v, %d bytes) = %v, %v", h, len(s), next, err)
			}
		}
		if n, err := xxh.Sum(h); n != 0 || err != api.ErrState {
			t.Errorf("Sum(%v) = %x, %v", h, n, err)
		}
	}
}

// P5.2: no state has more than MaxCount bytes.
func TestAddRange(t *testing.T) {
	for _, left := range []int{0, 1, 2, 31, 32, 33, 100} {
		h := great(api.MaxCount - left)
		next, err := xxh.Add(h, noise(left))
		if err != api.OK || next.Total != api.MaxCount || next.Tail != "" || next.Seed != h.Seed {
			t.Errorf("Add of %d bytes to the end = %v, %v", left, next, err)
		}
		for _, more := range []int{1, 32, 1000} {
			if next, err := xxh.Add(h, noise(left+more)); next != (api.Hash{}) || err != api.ErrRange {
				t.Errorf("Add of %d bytes too many = %v, %v", more, next, err)
			}
		}
	}
}

// P5.2: the chapter's examples.
func TestExamples(t *testing.T) {
	at0 := xxh.New(0)
	for _, h := range []api.Hash{add(t, at0, "abc"), add(t, add(t, at0, "a"), "bc")} {
		if n, err := xxh.Sum(h); n != xxh.Of("abc") || err != api.OK {
			t.Errorf("Sum(%v) = %x, %v", h, n, err)
		}
	}
	if err := xxh.Check(xxh.New(5)); err != api.OK {
		t.Errorf("Check(New(5)) = %v", err)
	}
	for _, total := range []int{1, -1} {
		h := at0
		h.Total = total
		if err := xxh.Check(h); err != api.ErrState {
			t.Errorf("Check with Total %d = %v", total, err)
		}
	}
	if h := add(t, at0, noise(33)); h.Total != 33 || len(h.Tail) != 1 {
		t.Errorf("Add of 33 bytes = %v", h)
	}
}

// P5.2, P5.3, P5.5: in whichever parts bytes are added, the state is the same one, and so is the checksum.
func TestParts(t *testing.T) {
	for _, s := range []string{"abc", noise(31), noise(32), noise(33), noise(64), noise(65), noise(150)} {
		for _, seed := range seeds() {
			whole, sum := modelState(s, seed), modelSum(s, seed)
			for i := range len(s) + 1 {
				for _, j := range []int{i, min(i+1, len(s)), min(i+31, len(s)), min(i+32, len(s)), min(i+70, len(s)), len(s)} {
					h := add(t, add(t, add(t, xxh.New(seed), s[:i]), s[i:j]), s[j:])
					if n, err := xxh.Sum(h); h != whole || n != sum || err != api.OK {
						t.Errorf("%x in parts of %d and %d bytes: %v, %x, %v", s, i, j-i, h, n, err)
					}
				}
			}
		}
	}
}

// P5.3, P5.5: byte by byte, each state is valid, and its Tail is the end of what was added.
func TestBytes(t *testing.T) {
	s := noise(200)
	for _, seed := range seeds() {
		h := xxh.New(seed)
		for i := range len(s) {
			h = add(t, h, s[i:i+1])
			n, err := xxh.Sum(h)
			if h != modelState(s[:i+1], seed) || xxh.Check(h) != api.OK || n != modelSum(s[:i+1], seed) || err != api.OK {
				t.Fatalf("behind %d bytes: %v, %x, %v", i+1, h, n, err)
			}
			if !strings.HasSuffix(s[:i+1], h.Tail) || len(h.Tail) != (i+1)%32 {
				t.Fatalf("behind %d bytes the Tail is %x", i+1, h.Tail)
			}
		}
	}
}
