package xxh_test

import (
	"strings"
	"testing"

	"cheesepress/api"
	"cheesepress/xxh"
)

// P5.1: the chapter's examples, and checksums that are known from elsewhere.
func TestSumsKnown(t *testing.T) {
	for _, c := range []struct {
		s    string
		seed uint64
		want uint64
	}{
		{"", 0, 0xef46db3751d8e999},
		{"a", 0, 0xd24ec4f1a98c6e5b},
		{"abc", 0, 0x44bc2cf5ad770999},
		{"xxhash", 0, 0x32dd38952c4bc720},
		{"xxhash", 20141025, 0xb559b98d844e0635},
		{"Nobody inspects the spammish repetition", 0, 0xfbcea83c8a378bf1},
	} {
		if got := xxh.Seeded(c.s, c.seed); got != c.want {
			t.Errorf("Seeded(%q, %d) = %x, not %x", c.s, c.seed, got, c.want)
		}
		if got := xxh.Of(c.s); c.seed == 0 && got != c.want {
			t.Errorf("Of(%q) = %x, not %x", c.s, got, c.want)
		}
	}
	if got := xxh.Low(""); got != 0x51d8e999 {
		t.Errorf("Low of nothing = %x", got)
	}
}

// P5.1: the checksum as the chapter describes it, made of exact sums and products.
func TestSums(t *testing.T) {
	for _, s := range texts() {
		for _, seed := range seeds() {
			if got, want := xxh.Seeded(s, seed), modelSum(s, seed); got != want {
				t.Errorf("Seeded(%x, %d) = %x, not %x", s, seed, got, want)
			}
		}
		want := modelSum(s, 0)
		if got := xxh.Of(s); got != want {
			t.Errorf("Of(%x) = %x, not %x", s, got, want)
		}
		if got := xxh.Low(s); uint64(got) != want%(1<<32) {
			t.Errorf("Low(%x) = %x, not the end of %x", s, got, want)
		}
	}
}

// P5.1: strings that are longer than any input.
func TestLongSum(t *testing.T) {
	s := strings.Repeat(noise(1000), 1100)
	h := xxh.New(7)
	for i := 0; i < len(s); i += 100_000 {
		h = add(t, h, s[i:i+100_000])
	}
	got, err := xxh.Sum(h)
	if want := xxh.Seeded(s, 7); got != want || err != api.OK {
		t.Errorf("Sum = %x, %v, not %x", got, err, want)
	}
}

// P5.4: strings of 1, 4 or 8 bytes that differ have different checksums.
func TestShortStringsDiffer(t *testing.T) {
	for _, size := range []int{1, 4, 8} {
		seen := map[uint64]string{}
		check := func(s string) {
			sum := xxh.Of(s)
			if other, ok := seen[sum]; ok && other != s {
				t.Errorf("%x and %x have the checksum %x", s, other, sum)
			}
			seen[sum] = s
		}
		for place := range size {
			for b := range 256 {
				for _, around := range []string{strings.Repeat("\x00", size), strings.Repeat("\xff", size), noise(size)} {
					check(around[:place] + string([]byte{byte(b)}) + around[place+1:])
				}
			}
		}
		long := noise(5000)
		for from := range len(long) - size {
			check(long[from : from+size])
		}
	}
}
