package bits_test

import (
	"math"
	"strings"
	"testing"

	"cheesepress/api"
	"cheesepress/bits"
	"cheesepress/digits"
)

// wrongReaders are readers that are not right, each with its error.
func wrongReaders() map[api.BitReader]api.Errno {
	long := zeros(api.MaxInput + 1)
	return map[api.BitReader]api.Errno{
		{Bit: 1}:                    api.ErrRange,
		{Bit: -1}:                   api.ErrRange,
		{S: "a", Bit: 9}:            api.ErrRange,
		{S: "ab", Bit: -1}:          api.ErrRange,
		{S: "ab", Bit: math.MinInt}: api.ErrRange,
		{S: "ab", Bit: math.MaxInt}: api.ErrRange,
		{S: zeros(api.MaxInput), Bit: 8*api.MaxInput + 1}: api.ErrRange,
		{S: long}:                     api.ErrLong,
		{S: long, Bit: 8 * len(long)}: api.ErrLong,
		{S: long, Bit: -1}:            api.ErrLong,
		{S: long, Bit: math.MaxInt}:   api.ErrLong,
	}
}

// texts are strings to be read.
func texts() []string {
	return []string{"", "\x00", "\x01", "\x80", "\xff", "\x25\x03", "\xa5\x5a\xc3", "\x01\x02\x04\x08\x10\x20\x40\x80", "\xff\xff\xff\xff\xff\xff", "\x00\x00\x80\x00\x00\x01"}
}

// P2.2, P1: Right, and its error first in Take, Peek, Left and Next; ErrLong comes before ErrRange.
func TestWrongReaders(t *testing.T) {
	for r, want := range wrongReaders() {
		if err := bits.Right(r); err != want {
			t.Errorf("Right(%d bytes, %d) = %v, not %v", len(r.S), r.Bit, err, want)
		}
		for _, n := range widths() {
			if next, value, err := bits.Take(r, n); next != (api.BitReader{}) || value != 0 || err != want {
				t.Errorf("Take(%d bytes, %d; %d) = bit %d, %d, %v, not %v", len(r.S), r.Bit, n, next.Bit, value, err, want)
			}
			if value, err := bits.Peek(r, n); value != 0 || err != want {
				t.Errorf("Peek(%d bytes, %d; %d) = %d, %v, not %v", len(r.S), r.Bit, n, value, err, want)
			}
		}
		if n, err := bits.Left(r); n != 0 || err != want {
			t.Errorf("Left(%d bytes, %d) = %d, %v, not %v", len(r.S), r.Bit, n, err, want)
		}
		if n, err := bits.Next(r); n != 0 || err != want {
			t.Errorf("Next(%d bytes, %d) = %d, %v, not %v", len(r.S), r.Bit, n, err, want)
		}
	}
}

// P2.2: Read at each byte and behind the last one, and beside them.
func TestRead(t *testing.T) {
	for _, s := range append(texts(), zeros(api.MaxInput)) {
		for _, at := range []int{math.MinInt, -2, -1, 0, 1, 2, len(s) - 1, len(s), len(s) + 1, 8 * len(s), api.MaxInput, api.MaxInput + 1, math.MaxInt} {
			want, wantErr := api.BitReader{S: s, Bit: 8 * at}, api.OK
			if at < 0 || at > len(s) {
				want, wantErr = api.BitReader{}, api.ErrRange
			}
			if got, err := bits.Read(s, at); got != want || err != wantErr {
				t.Errorf("Read(%d bytes, %d) = bit %d, %v", len(s), at, got.Bit, err)
			}
		}
	}
}

// P2.2: Read of a string that is too long is ErrLong, whatever at is.
func TestReadLong(t *testing.T) {
	for _, s := range []string{zeros(api.MaxInput + 1), zeros(api.MaxInput + 9)} {
		for _, at := range []int{0, 1, len(s), -1, len(s) + 1, math.MinInt, math.MaxInt} {
			if got, err := bits.Read(s, at); got != (api.BitReader{}) || err != api.ErrLong {
				t.Errorf("Read(%d bytes, %d) = bit %d, %v", len(s), at, got.Bit, err)
			}
		}
	}
}

// P2.2, P2.8: Take and Peek at every bit, for every width.
func TestTakePeek(t *testing.T) {
	for _, s := range texts() {
		all := digits.Text(s)
		for bit := range len(all) + 1 {
			r := api.BitReader{S: s, Bit: bit}
			rest := all[bit:]
			for _, n := range widths() {
				next, value, err := bits.Take(r, n)
				peeked, peekErr := bits.Peek(r, n)
				switch {
				case !isWidth(n):
					if next != (api.BitReader{}) || value != 0 || err != api.ErrRange || peeked != 0 || peekErr != api.ErrRange {
						t.Errorf("%x at bit %d, width %d: Take %v, %d, %v, Peek %d, %v", s, bit, n, next, value, err, peeked, peekErr)
					}
				case n > len(rest):
					if next != (api.BitReader{}) || value != 0 || err != api.ErrShort || peeked != digits.Number(rest) || peekErr != api.OK {
						t.Errorf("%x at bit %d, width %d: Take %v, %d, %v, Peek %d, %v", s, bit, n, next, value, err, peeked, peekErr)
					}
				default:
					want := digits.Number(rest[:n])
					if next != (api.BitReader{S: s, Bit: bit + n}) || value != want || err != api.OK || peeked != want || peekErr != api.OK {
						t.Errorf("%x at bit %d, width %d: Take %v, %d, %v, Peek %d, %v", s, bit, n, next, value, err, peeked, peekErr)
					}
				}
			}
		}
	}
}

// P2.3: Left and Next at every bit.
func TestLeftNext(t *testing.T) {
	for _, s := range texts() {
		for bit := range 8*len(s) + 1 {
			r := api.BitReader{S: s, Bit: bit}
			if n, err := bits.Left(r); n != 8*len(s)-bit || err != api.OK {
				t.Errorf("Left(%x, %d) = %d, %v", s, bit, n, err)
			}
			want := bit / 8
			if bit%8 != 0 {
				want++
			}
			if n, err := bits.Next(r); n != want || err != api.OK {
				t.Errorf("Next(%x, %d) = %d, %v", s, bit, n, err)
			}
		}
	}
}

// P2.2, P2.3: the greatest string, at its last bits.
func TestGreatestString(t *testing.T) {
	s := strings.Repeat("\xff", api.MaxInput)
	for left := range 41 {
		r := api.BitReader{S: s, Bit: 8*len(s) - left}
		if err := bits.Right(r); err != api.OK {
			t.Fatalf("Right with %d bits left: %v", left, err)
		}
		if n, err := bits.Left(r); n != left || err != api.OK {
			t.Errorf("Left = %d, %v, not %d", n, err, left)
		}
		if n, err := bits.Next(r); n != len(s)-left/8 || err != api.OK {
			t.Errorf("Next with %d bits left = %d, %v", left, n, err)
		}
		want := 1<<min(32, left) - 1
		if n, err := bits.Peek(r, 32); n != want || err != api.OK {
			t.Errorf("Peek with %d bits left = %d, %v", left, n, err)
		}
		_, n, err := bits.Take(r, 32)
		if left < 32 && (n != 0 || err != api.ErrShort) || left >= 32 && (n != want || err != api.OK) {
			t.Errorf("Take with %d bits left = %d, %v", left, n, err)
		}
	}
}

// P2.2, P2.3: the chapter's examples.
func TestReaderExamples(t *testing.T) {
	const s = "\x25\x03"
	first, err := bits.Read(s, 0)
	if first != (api.BitReader{S: s}) || err != api.OK {
		t.Fatalf("Read = %v, %v", first, err)
	}
	second, n, err := bits.Take(first, 3)
	if n != 5 || err != api.OK {
		t.Errorf("Take of 3 = %d, %v", n, err)
	}
	third, n, err := bits.Take(second, 7)
	if n != 100 || err != api.OK {
		t.Errorf("Take of 7 = %d, %v", n, err)
	}
	if r, n, err := bits.Take(third, 7); r != (api.BitReader{}) || n != 0 || err != api.ErrShort {
		t.Errorf("Take of 7 more = %v, %d, %v", r, n, err)
	}
	if n, err := bits.Peek(first, 32); n != 805 || err != api.OK {
		t.Errorf("Peek = %d, %v", n, err)
	}
	if n, err := bits.Left(first); n != 16 || err != api.OK {
		t.Errorf("Left = %d, %v", n, err)
	}
	if n, err := bits.Next(second); n != 1 || err != api.OK {
		t.Errorf("Next behind 3 bits = %d, %v", n, err)
	}
	byByte, _, _ := bits.Take(first, 8)
	if n, err := bits.Next(byByte); n != 1 || err != api.OK {
		t.Errorf("Next behind 8 bits = %d, %v", n, err)
	}
	if r, n, err := bits.Take(first, 33); r != (api.BitReader{}) || n != 0 || err != api.ErrRange {
		t.Errorf("Take of 33 = %v, %d, %v", r, n, err)
	}
	if r, err := bits.Read("a", 2); r != (api.BitReader{}) || err != api.ErrRange {
		t.Errorf("Read(a, 2) = %v, %v", r, err)
	}
}
