package back_test

import (
	"math"
	"strings"
	"testing"

	"cheesepress/api"
	"cheesepress/back"
)

// streams are backward streams.
func streams() []string {
	return []string{"\x01", "\x02", "\x0d", "\x80", "\xff", "\xff\x01", "\x11\x06", "\x00\x01", "\x00\x80", "\xa5\x5a\xc3", "\x01\x02\x04\x08\x10\x20\x40\x80", "\xff\xff\xff\xff\xff\xff", "\x00\x00\x80\x00\x00\x03"}
}

// noStreams are strings that are none, each with its error.
func noStreams() map[string]api.Errno {
	return map[string]api.Errno{
		"":                           api.ErrStream,
		"\x00":                       api.ErrStream,
		"\x01\x00":                   api.ErrStream,
		"\xff\xff\x00":               api.ErrStream,
		zeros(api.MaxInput):          api.ErrStream,
		zeros(api.MaxInput + 1):      api.ErrLong,
		zeros(api.MaxInput) + "\x01": api.ErrLong,
	}
}

// P3.2: Bits and Read of backward streams, and of each last byte.
func TestBitsRead(t *testing.T) {
	list := append(streams(), zeros(api.MaxInput-1)+"\x01", zeros(api.MaxInput-1)+"\xff")
	for last := 1; last < 256; last++ {
		list = append(list, string([]byte{byte(last)}), string([]byte{0xff, byte(last)}))
	}
	for _, s := range list {
		want := 8*len(s) - 1
		for pad := 128; int(s[len(s)-1])&pad == 0; pad /= 2 {
			want--
		}
		if n, err := back.Bits(s); n != want || err != api.OK {
			t.Errorf("Bits(%d bytes, the last %x) = %d, %v, not %d", len(s), s[len(s)-1], n, err, want)
		}
		r, err := back.Read(s)
		if r != (api.BackReader{S: s, Left: want}) || err != api.OK || back.Right(r) != api.OK {
			t.Errorf("Read(%d bytes, the last %x): %d left, %v, not %d", len(s), s[len(s)-1], r.Left, err, want)
		}
	}
}

// P3.2: Bits and Read of others; ErrLong comes before ErrStream.
func TestNoStreams(t *testing.T) {
	for s, want := range noStreams() {
		if n, err := back.Bits(s); n != 0 || err != want {
			t.Errorf("Bits(%d bytes) = %d, %v, not %v", len(s), n, err, want)
		}
		if r, err := back.Read(s); r != (api.BackReader{}) || err != want {
			t.Errorf("Read(%d bytes): %d left, %v, not %v", len(s), r.Left, err, want)
		}
	}
}

// wrongReaders are readers that are not right.
func wrongReaders() []api.BackReader {
	var list []api.BackReader
	for s := range noStreams() {
		for _, left := range []int{0, 1, -1, 8 * len(s)} {
			list = append(list, api.BackReader{S: s, Left: left})
		}
	}
	return append(list, []api.BackReader{
		{S: "\x0d", Left: 4}, {S: "\x0d", Left: 8}, {S: "\x0d", Left: -1}, {S: "\x0d", Left: math.MinInt}, {S: "\x0d", Left: math.MaxInt},
		{S: "\x01", Left: 1}, {S: "\xff\x01", Left: 9}, {S: "\xff\x80", Left: 16},
		{S: zeros(api.MaxInput-1) + "\x80", Left: 8 * api.MaxInput},
	}...)
}

// P3.2, P3.3, P1: Right, and its error first in Take, Peek and Skip.
func TestWrongReaders(t *testing.T) {
	for _, r := range wrongReaders() {
		if err := back.Right(r); err != api.ErrState {
			t.Errorf("Right(%d bytes, %d left) = %v", len(r.S), r.Left, err)
		}
		for _, n := range widths() {
			if next, value, err := back.Take(r, n); next != (api.BackReader{}) || value != 0 || err != api.ErrState {
				t.Errorf("Take(%d bytes, %d left; %d) = %d left, %d, %v", len(r.S), r.Left, n, next.Left, value, err)
			}
			if value, err := back.Peek(r, n); value != 0 || err != api.ErrState {
				t.Errorf("Peek(%d bytes, %d left; %d) = %d, %v", len(r.S), r.Left, n, value, err)
			}
			if next, err := back.Skip(r, n); next != (api.BackReader{}) || err != api.ErrState {
				t.Errorf("Skip(%d bytes, %d left; %d) = %d left, %v", len(r.S), r.Left, n, next.Left, err)
			}
		}
	}
}

// wantTaken is what reading n bits gives: the reader behind them, and their number, or an error.
func wantTaken(r api.BackReader, n int) (api.BackReader, uint64, api.Errno) {
	if !isWidth(n) {
		return api.BackReader{}, 0, api.ErrRange
	}
	if n > r.Left {
		return api.BackReader{}, 0, api.ErrShort
	}
	return api.BackReader{S: r.S, Left: r.Left - n}, fromEnd(inside(r.S)[:r.Left], n), api.OK
}

// P3.3: Take, Peek and Skip at every bit, for every width.
func TestTakePeekSkip(t *testing.T) {
	for _, s := range streams() {
		all := inside(s)
		for left := range len(all) + 1 {
			r := api.BackReader{S: s, Left: left}
			for _, n := range widths() {
				want, wantValue, wantErr := wantTaken(r, n)
				if next, value, err := back.Take(r, n); next != want || value != wantValue || err != wantErr {
					t.Errorf("Take(%x, %d left; %d) = %v, %d, %v, not %v, %d, %v", s, left, n, next, value, err, want, wantValue, wantErr)
				}
				if next, err := back.Skip(r, n); next != want || err != wantErr {
					t.Errorf("Skip(%x, %d left; %d) = %v, %v, not %v, %v", s, left, n, next, err, want, wantErr)
				}
				wantValue, wantErr = 0, api.ErrRange
				if isWidth(n) {
					wantValue, wantErr = fromEnd(all[:left], n), api.OK
				}
				if value, err := back.Peek(r, n); value != wantValue || err != wantErr {
					t.Errorf("Peek(%x, %d left; %d) = %d, %v, not %d, %v", s, left, n, value, err, wantValue, wantErr)
				}
			}
		}
	}
}

// P3.3: the greatest stream, at both ends.
func TestGreatestStream(t *testing.T) {
	s := strings.Repeat("\xff", api.MaxInput)
	count := 8*api.MaxInput - 1
	for _, left := range []int{count, count - 1, count - 33, 33, 32, 31, 8, 7, 1, 0} {
		r := api.BackReader{S: s, Left: left}
		there := min(32, left)
		want := uint64(1<<there-1) << (32 - there)
		if value, err := back.Peek(r, 32); value != want || err != api.OK {
			t.Errorf("Peek with %d left = %x, %v", left, value, err)
		}
		if next, value, err := back.Take(r, there); next.Left != left-there || value != 1<<there-1 || err != api.OK {
			t.Errorf("Take of %d with %d left = %x, %v, %d left", there, left, value, err, next.Left)
		}
	}
}

// P3.2, P3.3: the chapter's examples of readers.
func TestReaderExamples(t *testing.T) {
	for s, want := range map[string]int{"\x01": 0, "\x0d": 3, "\xff\x01": 8} {
		if n, err := back.Bits(s); n != want || err != api.OK {
			t.Errorf("Bits(%x) = %d, %v", s, n, err)
		}
	}
	first, value, err := back.Take(read(t, "\x11\x06"), 6)
	if value != 33 || err != api.OK {
		t.Errorf("Take of 6 = %d, %v", value, err)
	}
	second, value, err := back.Take(first, 4)
	if value != 1 || err != api.OK {
		t.Errorf("Take of 4 = %d, %v", value, err)
	}
	if r, value, err := back.Take(second, 1); r != (api.BackReader{}) || value != 0 || err != api.ErrShort {
		t.Errorf("Take of 1 = %v, %d, %v", r, value, err)
	}
	for _, c := range []struct {
		s    string
		n    int
		want uint64
	}{{"\x0d", 3, 5}, {"\x0d", 2, 2}, {"\x0d", 5, 20}, {"\x01", 4, 0}} {
		if value, err := back.Peek(read(t, c.s), c.n); value != c.want || err != api.OK {
			t.Errorf("Peek(%x, %d) = %d, %v", c.s, c.n, value, err)
		}
	}
	if r, err := back.Skip(read(t, "\x0d"), 2); r != (api.BackReader{S: "\x0d", Left: 1}) || err != api.OK {
		t.Errorf("Skip(0d, 2) = %v, %v", r, err)
	}
	if r, err := back.Skip(read(t, "\x0d"), 4); r != (api.BackReader{}) || err != api.ErrShort {
		t.Errorf("Skip(0d, 4) = %v, %v", r, err)
	}
	if err := back.Right(api.BackReader{S: "\x0d", Left: 4}); err != api.ErrState {
		t.Errorf("Right(0d with 4 left) = %v", err)
	}
}
