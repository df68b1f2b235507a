package back_test

import (
	"math"
	"strings"
	"testing"

	"cheesepress/api"
	"cheesepress/back"
	"cheesepress/digits"
)

// wrongWriters are writers that are not right.
func wrongWriters() []api.BackWriter {
	long := zeros(api.MaxInput + 1)
	return []api.BackWriter{
		{N: -1}, {N: 8}, {N: 9, Part: 1}, {N: 32}, {N: 64}, {N: math.MinInt}, {N: math.MaxInt},
		{Part: 1}, {Part: -1}, {Part: 8, N: 3}, {Part: -1, N: 7}, {Part: 128, N: 7}, {Part: math.MinInt, N: 7}, {Part: math.MaxInt, N: 7}, {Part: 1 << 32, N: 7},
		{S: "ab", N: 8}, {S: "ab", Part: 2, N: 1},
		{S: long}, {S: long, Part: 5, N: 3}, {S: long + "a"}, {S: long, N: 8}, {S: long, Part: -1},
	}
}

// P3.1: Check of writers that are right, up to each bound.
func TestCheckRight(t *testing.T) {
	for n := range 8 {
		for part := range 1 << n {
			for _, s := range []string{"", "\x00", "a\x00", zeros(api.MaxInput)} {
				if err := back.Check(api.BackWriter{S: s, Part: part, N: n}); err != api.OK {
					t.Errorf("Check(%d bytes, %d, %d) = %v", len(s), part, n, err)
				}
			}
		}
	}
}

// P3.1, P1: Check of others, and its error first in Put and Done.
func TestWrongWriters(t *testing.T) {
	for _, w := range wrongWriters() {
		if err := back.Check(w); err != api.ErrState {
			t.Errorf("Check(%v) = %v", short(w), err)
		}
		for _, n := range widths() {
			for _, value := range []uint64{0, 1, 1 << 32, math.MaxUint64} {
				if got, err := back.Put(w, n, value); got != (api.BackWriter{}) || err != api.ErrState {
					t.Errorf("Put(%v, %d, %d) = %v, %v", short(w), n, value, short(got), err)
				}
			}
		}
		if got, err := back.Done(w); got != "" || err != api.ErrState {
			t.Errorf("Done(%v) = %d bytes, %v", short(w), len(got), err)
		}
	}
}

// P3.1: Put for every width and every bound of it, behind every number of bits: the bits come above those that there are.
func TestPut(t *testing.T) {
	for _, before := range []string{"", "1", "01", "1111111", "00000000", "101100111", "010101010101010"} {
		w := writeDigits(t, before)
		for _, n := range widths() {
			for _, value := range values() {
				got, err := back.Put(w, n, value)
				if !isWidth(n) || value >= 1<<n {
					if got != (api.BackWriter{}) || err != api.ErrRange {
						t.Errorf("Put(%s, %d, %d) = %v, %v", before, n, value, got, err)
					}
					continue
				}
				if written(got) != before+digits.Of(value, n) || err != api.OK || back.Check(got) != api.OK {
					t.Errorf("Put(%s, %d, %d) = %v, %v", before, n, value, got, err)
				}
			}
		}
	}
}

// P3.1: the chapter's examples of writers.
func TestWriterExamples(t *testing.T) {
	for _, c := range []struct {
		numbers [][2]int
		want    string
	}{
		{nil, "\x01"},
		{[][2]int{{3, 5}}, "\x0d"},
		{[][2]int{{8, 255}}, "\xff\x01"},
		{[][2]int{{4, 1}, {6, 33}}, "\x11\x06"},
	} {
		var w api.BackWriter
		for _, n := range c.numbers {
			w = put(t, w, n[0], uint64(n[1]))
		}
		if got := done(t, w); got != c.want {
			t.Errorf("Done of %v = %x, not %x", c.numbers, got, c.want)
		}
	}
	if w, err := back.Put(api.BackWriter{}, 32, 1<<32-1); w != (api.BackWriter{S: "\xff\xff\xff\xff"}) || err != api.OK {
		t.Errorf("Put(32 bits 2^32 - 1) = %v, %v", w, err)
	}
	for _, c := range [][2]int{{33, 0}, {2, 4}, {-1, 0}} {
		if w, err := back.Put(api.BackWriter{}, c[0], uint64(c[1])); w != (api.BackWriter{}) || err != api.ErrRange {
			t.Errorf("Put(%d bits %d) = %v, %v", c[0], c[1], w, err)
		}
	}
	if err := back.Check(api.BackWriter{N: 8}); err != api.ErrState {
		t.Errorf("Check(N 8) = %v", err)
	}
}

// P3.1: ErrLong if S would have more than MaxInput bytes, and ErrRange before it.
func TestPutLong(t *testing.T) {
	for missing := range 6 {
		s := strings.Repeat("\xa5", api.MaxInput-missing)
		for bitsBefore := range 8 {
			w := api.BackWriter{S: s, N: bitsBefore, Part: 1<<bitsBefore - 1}
			for n := range 34 {
				got, err := back.Put(w, n, 0)
				want := api.OK
				switch {
				case n > 32:
					want = api.ErrRange
				case bitsBefore+n >= 8*(missing+1):
					want = api.ErrLong
				}
				if err != want || err != api.OK && got != (api.BackWriter{}) {
					t.Errorf("Put of %d bits, %d bytes and %d bits missing: %v, %v, not %v", n, missing, 8-bitsBefore, short(got), err, want)
				}
				if err == api.OK && (8*len(got.S)+got.N != 8*len(s)+bitsBefore+n || !strings.HasPrefix(got.S, s)) {
					t.Errorf("Put of %d bits, %d bytes and %d bits missing: %v", n, missing, 8-bitsBefore, short(got))
				}
			}
		}
	}
	full := api.BackWriter{S: zeros(api.MaxInput)}
	if w, err := back.Put(full, 8, 256); w != (api.BackWriter{}) || err != api.ErrRange {
		t.Errorf("Put(full, 8, 256) = %v, %v", short(w), err)
	}
}

// P3.1: Done puts the bit 1 above all others, and fills the byte with bits 0.
func TestDone(t *testing.T) {
	for n := range 8 {
		for part := range 1 << n {
			for _, s := range []string{"", "\x00", "a\xff"} {
				want := s + string([]byte{byte(part + 1<<n)})
				if got, err := back.Done(api.BackWriter{S: s, Part: part, N: n}); got != want || err != api.OK {
					t.Errorf("Done(%x, %d, %d) = %x, %v", s, part, n, got, err)
				}
			}
		}
	}
}

// P3.1: Done returns ErrLong where its byte would be too many, and only there.
func TestDoneLong(t *testing.T) {
	for missing := range 3 {
		for n := range 8 {
			s := zeros(api.MaxInput - missing)
			want, wantErr := s+string([]byte{1 << n}), api.OK
			if missing == 0 {
				want, wantErr = "", api.ErrLong
			}
			if got, err := back.Done(api.BackWriter{S: s, N: n}); got != want || err != wantErr {
				t.Errorf("Done(%d bytes, %d bits) = %d bytes, %v", len(s), n, len(got), err)
			}
		}
	}
}

// P3.5: the string of a writer with b bits has b / 8 + 1 bytes, and b bits.
func TestLengthOfStream(t *testing.T) {
	var w api.BackWriter
	count := 0
	for i := range 300 {
		stream := done(t, w)
		if len(stream) != count/8+1 {
			t.Fatalf("%d bits are %d bytes", count, len(stream))
		}
		if n, err := back.Bits(stream); n != count || err != api.OK {
			t.Fatalf("%d bits are read as %d, %v", count, n, err)
		}
		n := i * 7 % 33
		w = put(t, w, n, uint64(i)&(1<<n-1))
		count += n
	}
}

// P3.1: a writer that was used is as it was: two results of it have nothing to do with each other.
func TestWriterTwice(t *testing.T) {
	w := put(t, api.BackWriter{}, 11, 0x2b5)
	kept := w
	one, two := put(t, w, 32, 0xffffffff), put(t, w, 32, 0)
	if w != kept || written(one) != written(w)+digits.Of(0xffffffff, 32) || written(two) != written(w)+digits.Of(0, 32) {
		t.Errorf("%v became %v, and %v and %v came of it", kept, w, one, two)
	}
}
