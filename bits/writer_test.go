package bits_test

import (
	"math"
	"strings"
	"testing"

	"cheesepress/api"
	"cheesepress/bits"
	"cheesepress/digits"
)

// wrongWriters are writers that are not right, each with its error.
func wrongWriters() map[api.BitWriter]api.Errno {
	long := zeros(api.MaxInput + 1)
	return map[api.BitWriter]api.Errno{
		{N: -1}:                       api.ErrRange,
		{N: 8}:                        api.ErrRange,
		{N: 9, Part: 1}:               api.ErrRange,
		{N: 32}:                       api.ErrRange,
		{N: 64}:                       api.ErrRange,
		{N: math.MinInt}:              api.ErrRange,
		{N: math.MaxInt}:              api.ErrRange,
		{Part: 1}:                     api.ErrRange,
		{Part: -1}:                    api.ErrRange,
		{Part: 8, N: 3}:               api.ErrRange,
		{Part: -1, N: 7}:              api.ErrRange,
		{Part: 128, N: 7}:             api.ErrRange,
		{Part: math.MinInt, N: 7}:     api.ErrRange,
		{Part: math.MaxInt, N: 7}:     api.ErrRange,
		{S: "ab", N: 8}:               api.ErrRange,
		{S: "ab", Part: 2, N: 1}:      api.ErrRange,
		{S: long}:                     api.ErrLong,
		{S: long, Part: 5, N: 3}:      api.ErrLong,
		{S: long + "a"}:               api.ErrLong,
		{S: long, N: 8}:               api.ErrRange,
		{S: long, N: -1}:              api.ErrRange,
		{S: long, Part: 1}:            api.ErrRange,
		{S: long, Part: -1, N: 7}:     api.ErrRange,
		{S: long, Part: 1 << 7, N: 7}: api.ErrRange,
	}
}

// P2.1: Check of writers that are right, up to each bound.
func TestCheckRight(t *testing.T) {
	for n := range 8 {
		for part := range 1 << n {
			for _, s := range []string{"", "a", "\x00\xff", zeros(api.MaxInput)} {
				if err := bits.Check(api.BitWriter{S: s, Part: part, N: n}); err != api.OK {
					t.Errorf("Check(%d bytes, %d, %d) = %v", len(s), part, n, err)
				}
			}
		}
	}
}

// P2.1: Check of others; ErrRange comes before ErrLong.
func TestCheckWrong(t *testing.T) {
	for w, want := range wrongWriters() {
		if err := bits.Check(w); err != want {
			t.Errorf("Check(%v) = %v, not %v", short(w), err, want)
		}
	}
}

// P2.1, P1: Put, Align and Done return the error of Check first, with nothing else.
func TestWrongWriters(t *testing.T) {
	for w, want := range wrongWriters() {
		for _, n := range widths() {
			for _, value := range []int{-1, 0, 1, math.MinInt, math.MaxInt} {
				if got, err := bits.Put(w, n, value); got != (api.BitWriter{}) || err != want {
					t.Errorf("Put(%v, %d, %d) = %v, %v, not %v", short(w), n, value, short(got), err, want)
				}
			}
		}
		if got, err := bits.Align(w); got != (api.BitWriter{}) || err != want {
			t.Errorf("Align(%v) = %v, %v, not %v", short(w), short(got), err, want)
		}
		if got, err := bits.Done(w); got != "" || err != want {
			t.Errorf("Done(%v) = %d bytes, %v, not %v", short(w), len(got), err, want)
		}
	}
}

// P2.1, P2.7: Put for every width and every bound of it, behind every number of bits: n bits more, the lowest one first.
func TestPut(t *testing.T) {
	for _, before := range []string{"", "1", "01", "1111111", "00000000", "101100111", "010101010101010"} {
		w := writeDigits(t, before)
		for _, n := range widths() {
			for _, value := range values() {
				got, err := bits.Put(w, n, value)
				if !isWidth(n) || value < 0 || value >= 1<<n {
					if got != (api.BitWriter{}) || err != api.ErrRange {
						t.Errorf("Put(%s, %d, %d) = %v, %v", before, n, value, got, err)
					}
					continue
				}
				if written(got) != before+digits.Of(value, n) || err != api.OK || bits.Check(got) != api.OK {
					t.Errorf("Put(%s, %d, %d) = %v, %v", before, n, value, got, err)
				}
			}
		}
	}
}

// P2.1: the chapter's examples.
func TestWriterExamples(t *testing.T) {
	three := put(t, api.BitWriter{}, 3, 5)
	if three != (api.BitWriter{Part: 5, N: 3}) {
		t.Errorf("3 bits 5: %v", three)
	}
	ten := put(t, three, 7, 100)
	if ten != (api.BitWriter{S: "\x25", Part: 3, N: 2}) {
		t.Errorf("3 bits 5, 7 bits 100: %v", ten)
	}
	if s, err := bits.Done(ten); s != "\x25\x03" || err != api.OK {
		t.Errorf("Done = %x, %v", s, err)
	}
	if w, err := bits.Align(three); w != (api.BitWriter{S: "\x05"}) || err != api.OK {
		t.Errorf("Align = %v, %v", w, err)
	}
	for _, c := range [][2]int{{3, 8}, {33, 0}} {
		if w, err := bits.Put(ten, c[0], c[1]); w != (api.BitWriter{}) || err != api.ErrRange {
			t.Errorf("Put(.., %d, %d) = %v, %v", c[0], c[1], w, err)
		}
	}
}

// P2.1: ErrLong if there would be more than MaxInput whole bytes, and ErrRange before it.
func TestPutLong(t *testing.T) {
	for missing := range 6 {
		s := strings.Repeat("\xa5", api.MaxInput-missing)
		for bitsBefore := range 8 {
			w := api.BitWriter{S: s, N: bitsBefore, Part: 1<<bitsBefore - 1}
			for n := range 34 {
				got, err := bits.Put(w, n, 0)
				want := api.OK
				switch {
				case n > 32:
					want = api.ErrRange
				case bitsBefore+n >= 8*(missing+1):
					want = api.ErrLong
				}
				if err != want || err != api.OK && got != (api.BitWriter{}) {
					t.Errorf("Put of %d bits, %d bytes and %d bits missing: %v, %v, not %v", n, missing, 8-bitsBefore, short(got), err, want)
				}
				if err == api.OK && (8*len(got.S)+got.N != 8*len(s)+bitsBefore+n || !strings.HasPrefix(got.S, s)) {
					t.Errorf("Put of %d bits, %d bytes and %d bits missing: %v", n, missing, 8-bitsBefore, short(got))
				}
			}
		}
	}
	full := api.BitWriter{S: zeros(api.MaxInput)}
	if w, err := bits.Put(full, 8, 256); w != (api.BitWriter{}) || err != api.ErrRange {
		t.Errorf("Put(full, 8, 256) = %v, %v", short(w), err)
	}
}

// P2.1: Align writes as many bits 0 as make the bytes whole, and Done returns them.
func TestAlignDone(t *testing.T) {
	for n := range 8 {
		for part := range 1 << n {
			for _, s := range []string{"", "\x00", "a\xff"} {
				w := api.BitWriter{S: s, Part: part, N: n}
				want := s
				if n > 0 {
					want += string([]byte{byte(part)})
				}
				if got, err := bits.Align(w); got != (api.BitWriter{S: want}) || err != api.OK {
					t.Errorf("Align(%v) = %v, %v", w, got, err)
				}
				if got, err := bits.Done(w); got != want || err != api.OK {
					t.Errorf("Done(%v) = %x, %v", w, got, err)
				}
			}
		}
	}
}

// P2.1: Align and Done return ErrLong where a byte would be too many, and only there.
func TestAlignDoneLong(t *testing.T) {
	for missing := range 3 {
		for n := range 8 {
			s := zeros(api.MaxInput - missing)
			w := api.BitWriter{S: s, N: n}
			want, wantErr := s, api.OK
			if n > 0 {
				want += "\x00"
			}
			if len(want) > api.MaxInput {
				want, wantErr = "", api.ErrLong
			}
			if got, err := bits.Align(w); got != (api.BitWriter{S: want}) || err != wantErr {
				t.Errorf("Align(%v) = %v, %v", short(w), short(got), err)
			}
			if got, err := bits.Done(w); got != want || err != wantErr {
				t.Errorf("Done(%v) = %d bytes, %v", short(w), len(got), err)
			}
		}
	}
}

// P2.7: n bits more each time, and behind all of them the bytes of an aligned writer, the least number that holds the bits.
func TestLengthOfWritten(t *testing.T) {
	var w api.BitWriter
	count := 0
	for i := range 300 {
		n := i * 7 % 33
		w = put(t, w, n, 1<<n-1)
		count += n
		if 8*len(w.S)+w.N != count {
			t.Fatalf("%d bytes and %d bits, of %d bits", len(w.S), w.N, count)
		}
		aligned, err := bits.Align(w)
		if err != api.OK || aligned.N != 0 || 8*len(aligned.S) < count || 8*len(aligned.S) >= count+8 {
			t.Fatalf("Align: %d bytes of %d bits, %v", len(aligned.S), count, err)
		}
	}
}

// P2.8: a number is written as its bits, each of which counts 1 << its place.
func TestNumberOfBits(t *testing.T) {
	for place := range 32 {
		whole := put(t, put(t, api.BitWriter{}, 3, 2), 32, 1<<place)
		if got := written(whole); strings.Count(got, "1") != 2 || got[3+place] != '1' {
			t.Errorf("1 << %d is written as %s", place, got)
		}
	}
	for _, value := range values() {
		if value < 0 || value >= 1<<32 {
			continue
		}
		if got := digits.Number(written(put(t, api.BitWriter{}, 32, value))); got != value {
			t.Errorf("%d is written as %d", value, got)
		}
	}
}
