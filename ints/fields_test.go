package ints_test

import (
	"math"
	"slices"
	"strings"
	"testing"

	"cheesepress/api"
	"cheesepress/ints"
)

// longs are numbers of one to eight bytes, those beside each bound among them.
func longs() []uint64 {
	list := []uint64{0, 1, 2, 127, 128, 258, 0x0102030405060708, 0xfedcba9876543210, math.MaxUint64 - 1}
	for size := 1; size <= 8; size++ {
		greatest := uint64(math.MaxUint64) >> (64 - 8*size)
		list = append(list, greatest-1, greatest, greatest+1, greatest/2+1)
	}
	return list
}

// fits tells whether n is below 256^size, without a shift by the whole width.
func fits(n uint64, size int) bool {
	for range size {
		n /= 256
	}
	return n == 0
}

// P1.2: the byte i of a field counts 256^i times, and n must be below 256^size.
func TestLittle(t *testing.T) {
	for _, n := range longs() {
		for size := 1; size <= 8; size++ {
			got, err := ints.Little(n, size)
			if !fits(n, size) {
				if got != "" || err != api.ErrRange {
					t.Errorf("Little(%d, %d) = %x, %v", n, size, got, err)
				}
				continue
			}
			sum, times := uint64(0), uint64(1)
			for i := range len(got) {
				sum += uint64(got[i]) * times
				times *= 256
			}
			if err != api.OK || len(got) != size || sum != n {
				t.Errorf("Little(%d, %d) = %x, %v", n, size, got, err)
			}
		}
	}
}

// P1.2: the chapter's examples.
func TestLittleExamples(t *testing.T) {
	for _, c := range []struct {
		n    uint64
		size int
		want string
		err  api.Errno
	}{
		{258, 2, "\x02\x01", api.OK},
		{256, 1, "", api.ErrRange},
		{0, 1, "\x00", api.OK},
		{0, 0, "", api.ErrRange},
		{math.MaxUint64, 8, strings.Repeat("\xff", 8), api.OK},
	} {
		if got, err := ints.Little(c.n, c.size); got != c.want || err != c.err {
			t.Errorf("Little(%d, %d) = %x, %v", c.n, c.size, got, err)
		}
	}
}

// P1.2: sizes that are not from 1 to 8 are refused, also for 0.
func TestLittleSize(t *testing.T) {
	for _, size := range edges() {
		if size >= 1 && size <= 8 {
			continue
		}
		for _, n := range []uint64{0, math.MaxUint64} {
			if got, err := ints.Little(n, size); got != "" || err != api.ErrRange {
				t.Errorf("Little(%d, %d) = %x, %v", n, size, got, err)
			}
		}
	}
}

// P1.3: the chapter's examples.
func TestReadExamples(t *testing.T) {
	const s = "\x02\x01\x05"
	for _, c := range []struct {
		at, size int
		n        uint64
		next     int
		f        api.Fault
	}{
		{0, 2, 258, 2, api.Fault{}},
		{2, 1, 5, 3, api.Fault{}},
		{2, 2, 0, 0, api.Fault{Err: api.ErrShort, At: 3}},
		{4, 1, 0, 0, api.Fault{Err: api.ErrRange}},
		{0, 9, 0, 0, api.Fault{Err: api.ErrRange}},
	} {
		if n, next, f := ints.Read(s, c.at, c.size); n != c.n || next != c.next || f != c.f {
			t.Errorf("Read(%x, %d, %d) = %d, %d, %v", s, c.at, c.size, n, next, f)
		}
	}
}

// P1.3: every place and size of a string, and those beside them.
func TestRead(t *testing.T) {
	const s = "\x00\x80\xff\x01\x00\x7f\xfe\x02\x03\xff"
	for at := -2; at <= len(s)+2; at++ {
		for size := -2; size <= 11; size++ {
			wantN, wantNext, want := uint64(0), 0, api.Fault{}
			switch {
			case size < 1 || size > 8 || at < 0 || at > len(s):
				want.Err = api.ErrRange
			case at+size > len(s):
				want = api.Fault{Err: api.ErrShort, At: len(s)}
			default:
				for i := size - 1; i >= 0; i-- {
					wantN = 256*wantN + uint64(s[at+i])
				}
				wantNext = at + size
			}
			if n, next, f := ints.Read(s, at, size); n != wantN || next != wantNext || f != want {
				t.Errorf("Read(%x, %d, %d) = %d, %d, %v", s, at, size, n, next, f)
			}
		}
	}
}

// P1.3, P1: of the two faults ErrRange is the first one, and no number is too great for it.
func TestReadEdges(t *testing.T) {
	for _, s := range []string{"", "abc"} {
		for _, at := range edges() {
			for _, size := range edges() {
				want := api.Fault{Err: api.ErrRange}
				if size >= 1 && size <= 8 && at >= 0 && at <= len(s) {
					if size <= len(s)-at {
						continue
					}
					want = api.Fault{Err: api.ErrShort, At: len(s)}
				}
				if n, next, f := ints.Read(s, at, size); n != 0 || next != 0 || f != want {
					t.Errorf("Read(%q, %d, %d) = %d, %d, %v", s, at, size, n, next, f)
				}
			}
		}
	}
}

// P1.6: a number is read from its field, whatever stands around it.
func TestNumberOfField(t *testing.T) {
	for _, n := range longs() {
		for size := 1; size <= 8; size++ {
			if !fits(n, size) {
				continue
			}
			field, _ := ints.Little(n, size)
			for _, around := range []string{"", "\x00", "\xff\xfe"} {
				got, next, f := ints.Read(around+field+around, len(around), size)
				if got != n || next != len(around)+size || f != (api.Fault{}) {
					t.Errorf("Read of Little(%d, %d) = %d, %d, %v", n, size, got, next, f)
				}
			}
		}
	}
}

// P1.6: a field is written from its number.
func TestFieldOfNumber(t *testing.T) {
	for _, s := range []string{"\x00", "\x80", "\x01\x00", "\x00\x01", "\xff\x00\xff", "\x00\x00\x00\x00", "abcde", "\xfe\xdc\xba\x98\x76\x54", "\x01\x02\x03\x04\x05\x06\x07", "\xff\xff\xff\xff\xff\xff\xff\xff"} {
		n, _, _ := ints.Read(s, 0, len(s))
		if got, err := ints.Little(n, len(s)); got != s || err != api.OK {
			t.Errorf("Little of Read(%x) = %x, %v", s, got, err)
		}
	}
}

// P1.6: fields of one size are ordered as their numbers, read from the last byte on.
func TestOrderOfFields(t *testing.T) {
	for size := 1; size <= 8; size++ {
		for _, a := range longs() {
			for _, b := range longs() {
				if !fits(a, size) || !fits(b, size) {
					continue
				}
				if (a < b) != (backwards(t, a, size) < backwards(t, b, size)) {
					t.Errorf("the fields of %d and %d, of %d bytes, are not ordered as they are", a, b, size)
				}
			}
		}
	}
}

func backwards(t *testing.T, n uint64, size int) string {
	field, err := ints.Little(n, size)
	if err != api.OK {
		t.Fatalf("Little(%d, %d): %v", n, size, err)
	}
	b := []byte(field)
	slices.Reverse(b)
	return string(b)
}
