package back_test

import (
	"math/rand"
	"slices"
	"testing"

	"cheesepress/api"
	"cheesepress/back"
)

// number is a number of so many bits.
type number struct {
	bits  int
	value uint64
}

// some returns a number; the greatest value, and 0, come often.
func some(r *rand.Rand) number {
	n := r.Intn(33)
	switch r.Intn(4) {
	case 0:
		return number{bits: n}
	case 1:
		return number{bits: n, value: 1<<n - 1}
	default:
		return number{bits: n, value: r.Uint64() & (1<<n - 1)}
	}
}

// stream returns a stream of some bytes.
func stream(r *rand.Rand) string {
	b := make([]byte, 1+r.Intn(12))
	r.Read(b)
	b[len(b)-1] = byte(1 + r.Intn(255))
	return string(b)
}

// P3.4: numbers that were written are read in the opposite order.
func TestWrittenIsRead(t *testing.T) {
	random := rand.New(rand.NewSource(4))
	for range 300 {
		var w api.BackWriter
		var wrote []number
		for range random.Intn(40) {
			x := some(random)
			w = put(t, w, x.bits, x.value)
			wrote = append(wrote, x)
		}
		r := read(t, done(t, w))
		for _, x := range slices.Backward(wrote) {
			next, value, err := back.Take(r, x.bits)
			if value != x.value || err != api.OK {
				t.Fatalf("%v of %v is read as %d, %v", x, wrote, value, err)
			}
			r = next
		}
		if r.Left != 0 {
			t.Fatalf("behind %v there are %d bits", wrote, r.Left)
		}
	}
}

// P3.6: reading m bits, and then n bits, is reading m + n bits.
func TestParts(t *testing.T) {
	for _, s := range []string{"\x25\x83\xff\x00\x9c\x71\x00\xfe", "\x00\x00\x00\x80\x00\x01"} {
		for left := range read(t, s).Left + 1 {
			start := api.BackReader{S: s, Left: left}
			for m := range 33 {
				for n := range 33 - m {
					end, both, err := back.Take(start, m+n)
					if err != api.OK {
						continue
					}
					middle, first, e := back.Take(start, m)
					last, second, f := back.Take(middle, n)
					if e != api.OK || f != api.OK || first<<n+second != both || end != last {
						t.Fatalf("%d and %d bits of %x, %d left: %d and %d, at once %d", m, n, s, left, first, second, both)
					}
				}
			}
		}
	}
}

// P3.7: Peek is what Take gives, if there are as many bits, and Skip goes where Take goes.
func TestPeekIsTake(t *testing.T) {
	random := rand.New(rand.NewSource(7))
	for range 1000 {
		r := read(t, stream(random))
		r.Left = random.Intn(r.Left + 1)
		for n := range min(32, r.Left) + 1 {
			next, value, err := back.Take(r, n)
			if err != api.OK {
				t.Fatalf("Take(%v, %d): %v", r, n, err)
			}
			if peeked, err := back.Peek(r, n); peeked != value || err != api.OK {
				t.Fatalf("Peek(%v, %d) = %d, %v, not %d", r, n, peeked, err, value)
			}
			if skipped, err := back.Skip(r, n); skipped != next || err != api.OK {
				t.Fatalf("Skip(%v, %d) = %v, %v, not %v", r, n, skipped, err, next)
			}
		}
	}
}

// P3.7: Peek of n bits does not change with what is left below them.
func TestPeekBelow(t *testing.T) {
	random := rand.New(rand.NewSource(8))
	for range 1000 {
		x := some(random)
		var seen []uint64
		for range 4 {
			var w api.BackWriter
			for range random.Intn(4) {
				below := some(random)
				w = put(t, w, below.bits, below.value)
			}
			value, err := back.Peek(read(t, done(t, put(t, w, x.bits, x.value))), x.bits)
			if err != api.OK {
				t.Fatalf("Peek(.., %d): %v", x.bits, err)
			}
			seen = append(seen, value)
		}
		for _, value := range seen {
			if value != x.value {
				t.Fatalf("%v is peeked as %v", x, seen)
			}
		}
	}
}

// P3.8: zeros before a stream change nothing that is read from the old bits.
func TestZerosBefore(t *testing.T) {
	random := rand.New(rand.NewSource(9))
	for range 300 {
		s := stream(random)
		more := 1 + random.Intn(6)
		old, longer := read(t, s), read(t, zeros(more)+s)
		if longer.Left != old.Left+8*more {
			t.Fatalf("%x has %d bits, and %d with %d zeros before it", s, old.Left, longer.Left, more)
		}
		for {
			n := random.Intn(33)
			peeked, e := back.Peek(old, n)
			if other, f := back.Peek(longer, n); other != peeked || e != api.OK || f != api.OK {
				t.Fatalf("Peek of %d in %x: %d, %v, with zeros before it %d, %v", n, s, peeked, e, other, f)
			}
			next, value, err := back.Take(old, n)
			if err != api.OK {
				break
			}
			nextLonger, other, err := back.Take(longer, n)
			if other != value || err != api.OK {
				t.Fatalf("Take of %d in %x: %d, with zeros before it %d, %v", n, s, value, other, err)
			}
			old, longer = next, nextLonger
		}
	}
}
