package cursor_test

import (
	"math"
	"testing"

	"cheesepress/api"
	"cheesepress/cursor"
)

// behind is a sound cursor after n bytes were read; least and most are the bounds of n.
func behind(c api.Cursor, n, least, most int) api.Cursor {
	switch {
	case n < least || n > most:
		c.Fault = fault(api.ErrRange, c.At)
	case n > len(c.S)-c.At:
		c.Fault = fault(api.ErrShort, len(c.S))
	default:
		c.At += n
	}
	return c
}

// P4.2: Byte at every offset.
func TestByte(t *testing.T) {
	for _, c := range sound() {
		want, wantValue := behind(c, 1, 1, 1), 0
		if c.At < len(c.S) {
			wantValue = int(c.S[c.At])
		}
		if got, value := cursor.Byte(c); got != want || value != wantValue {
			t.Errorf("Byte(%v) = %v, %d, not %v, %d", c, got, value, want, wantValue)
		}
	}
}

// P4.2, P4.5: Little at every offset, for every number of bytes.
func TestLittle(t *testing.T) {
	for _, c := range sound() {
		for _, n := range numbers() {
			want, wantValue := behind(c, n, 1, 8), uint64(0)
			if want.Fault == (api.Fault{}) {
				wantValue = littleOf(c.S[c.At : c.At+n])
			}
			if got, value := cursor.Little(c, n); got != want || value != wantValue {
				t.Errorf("Little(%v, %d) = %v, %d, not %v, %d", c, n, got, value, want, wantValue)
			}
		}
	}
	if _, value := cursor.Little(cursor.New("\xff\xff\xff\xff\xff\xff\xff\xff", 0), 8); value != math.MaxUint64 {
		t.Errorf("Little of 8 bytes ff = %d", value)
	}
}

// P4.2: Bytes and Skip at every offset, for every number of bytes.
func TestBytesSkip(t *testing.T) {
	for _, c := range sound() {
		for _, n := range numbers() {
			want, wantBytes := behind(c, n, 0, math.MaxInt), ""
			if want.Fault == (api.Fault{}) {
				wantBytes = c.S[c.At : c.At+n]
			}
			if got, bytes := cursor.Bytes(c, n); got != want || bytes != wantBytes {
				t.Errorf("Bytes(%v, %d) = %v, %x, not %v, %x", c, n, got, bytes, want, wantBytes)
			}
			if got := cursor.Skip(c, n); got != want {
				t.Errorf("Skip(%v, %d) = %v, not %v", c, n, got, want)
			}
		}
	}
}

// P4.3: Inner at every offset, for every number of bytes.
func TestInner(t *testing.T) {
	for _, c := range sound() {
		for _, n := range numbers() {
			want := behind(c, n, 0, math.MaxInt)
			wantInner := want
			if want.Fault == (api.Fault{}) {
				wantInner = api.Cursor{S: c.S[:c.At+n], At: c.At}
			}
			if inner, after := cursor.Inner(c, n); inner != wantInner || after != want {
				t.Errorf("Inner(%v, %d) = %v, %v, not %v, %v", c, n, inner, after, wantInner, want)
			}
		}
	}
}

// P4.2, P4.3, P4.4, P4.7: a cursor with a Fault does not change, and whatever is read is 0 or empty.
func TestFirstFaultStays(t *testing.T) {
	for _, c := range failed() {
		for _, n := range numbers() {
			for _, r := range readings() {
				if next, read := r.read(c, n); next != c || read != "" {
					t.Errorf("%s(%v, %d) = %v, %x", r.name, c, n, next, read)
				}
			}
			if inner, after := cursor.Inner(c, n); inner != c || after != c {
				t.Errorf("Inner(%v, %d) = %v, %v", c, n, inner, after)
			}
			for _, err := range []api.Errno{-1, 0, api.ErrForm, 31, 32} {
				if got := cursor.Fail(c, err, n); got != c {
					t.Errorf("Fail(%v, %d, %d) = %v", c, err, n, got)
				}
			}
		}
	}
}

// P4.5: bytes in parts are the bytes at once, and numbers likewise.
func TestParts(t *testing.T) {
	for _, c := range sound() {
		for n := range cursor.Left(c) + 1 {
			for m := range cursor.Left(c) - n + 1 {
				middle, first := cursor.Bytes(c, n)
				last, second := cursor.Bytes(middle, m)
				if whole, both := cursor.Bytes(c, n+m); first+second != both || last != whole {
					t.Errorf("%d and %d bytes of %v: %x and %x, at once %x", n, m, c, first, second, both)
				}
				if n < 1 || m < 1 || n+m > 8 {
					continue
				}
				middle, low := cursor.Little(c, n)
				last, high := cursor.Little(middle, m)
				if whole, both := cursor.Little(c, n+m); low+high<<(8*n) != both || last != whole {
					t.Errorf("%d and %d bytes of %v: %d and %d, at once %d", n, m, c, low, high, both)
				}
			}
		}
	}
}

// P4.5: Little is the sum of its bytes, read one by one.
func TestLittleOfBytes(t *testing.T) {
	for _, c := range sound() {
		for n := 1; n <= min(8, cursor.Left(c)); n++ {
			next, sum, times := c, uint64(0), uint64(1)
			for range n {
				var b int
				next, b = cursor.Byte(next)
				sum += uint64(b) * times
				times *= 256
			}
			if end, value := cursor.Little(c, n); value != sum || end != next {
				t.Errorf("Little(%v, %d) = %v, %d, byte by byte %v, %d", c, n, end, value, next, sum)
			}
		}
	}
}

// P4.6: At never falls, and is at most the length, whatever is read.
func TestAtNeverFalls(t *testing.T) {
	for _, c := range append(sound(), failed()...) {
		for _, n := range numbers() {
			for _, r := range readings() {
				next, _ := r.read(c, n)
				if next.At < c.At || next.At > len(c.S) || next.S != c.S || cursor.Check(next) != api.OK {
					t.Errorf("%s(%v, %d) = %v", r.name, c, n, next)
				}
			}
		}
	}
}

// P4.8: what is read from an inner cursor is what is read from the whole one, and behind it there is ErrShort at its end.
func TestInnerReads(t *testing.T) {
	for _, c := range sound() {
		for size := range cursor.Left(c) + 1 {
			inner, _ := cursor.Inner(c, size)
			for n := range cursor.Left(c) + 3 {
				for _, r := range readings() {
					got, read := r.read(inner, n)
					want, wantRead := r.read(c, n)
					if want.Fault.Err == api.ErrShort || want.At > c.At+size {
						want, wantRead = inner, ""
						want.Fault = fault(api.ErrShort, c.At+size)
					}
					want.S = inner.S
					if got != want || read != wantRead {
						t.Errorf("%s of %d bytes, from the inner %v: %v, %x, not %v, %x", r.name, n, inner, got, read, want, wantRead)
					}
				}
			}
		}
	}
}
