package bits_test

import (
	"math/rand"
	"testing"

	"cheesepress/api"
	"cheesepress/bits"
	"cheesepress/digits"
)

// some returns a width and a value of it; the greatest value, and 0, come often.
func some(r *rand.Rand) (n, value int) {
	n = r.Intn(33)
	switch r.Intn(4) {
	case 0:
		return n, 0
	case 1:
		return n, 1<<n - 1
	default:
		return n, r.Intn(1 << n)
	}
}

// P2.4: what was written is read, in the same order, behind whatever stands before it.
func TestWrittenIsRead(t *testing.T) {
	random := rand.New(rand.NewSource(4))
	for range 300 {
		before := zeros(random.Intn(3))
		w := api.BitWriter{S: before}
		var wrote [][2]int
		for range random.Intn(40) {
			n, value := some(random)
			w = put(t, w, n, value)
			wrote = append(wrote, [2]int{n, value})
		}
		s, err := bits.Done(w)
		if err != api.OK {
			t.Fatalf("Done: %v", err)
		}
		r, err := bits.Read(s, len(before))
		for i, x := range wrote {
			value := 0
			if r, value, err = bits.Take(r, x[0]); value != x[1] || err != api.OK {
				t.Fatalf("the number %d of %v is read as %d, %v", i, wrote, value, err)
			}
		}
		if left, err := bits.Left(r); left > 7 || err != api.OK {
			t.Fatalf("behind %v there are %d bits, %v", wrote, left, err)
		}
		if next, err := bits.Next(r); next != len(s) || err != api.OK {
			t.Fatalf("behind %v the next byte is %d of %d, %v", wrote, next, len(s), err)
		}
	}
}

// P2.5: bits are taken in parts as at once, and written so.
func TestParts(t *testing.T) {
	const s = "\x25\x83\xff\x00\x9c\x71\x00\xfe"
	for bit := range 8*len(s) + 1 {
		start := api.BitReader{S: s, Bit: bit}
		for n := range 33 {
			for m := range 33 - n {
				whole, both, err := bits.Take(start, n+m)
				if err != api.OK {
					continue
				}
				middle, first, e := bits.Take(start, n)
				end, second, f := bits.Take(middle, m)
				if e != api.OK || f != api.OK || first+second<<n != both || end != whole {
					t.Fatalf("%d and %d bits at bit %d: %d and %d, at once %d", n, m, bit, first, second, both)
				}
				inParts := put(t, put(t, api.BitWriter{}, n, first), m, second)
				if atOnce := put(t, api.BitWriter{}, n+m, both); inParts != atOnce {
					t.Fatalf("%d and %d bits are written as %v, at once %v", n, m, inParts, atOnce)
				}
			}
		}
	}
}

// P2.6: Peek is Take where that many bits are left.
func TestPeekIsTake(t *testing.T) {
	random := rand.New(rand.NewSource(6))
	for range 2000 {
		b := make([]byte, random.Intn(12))
		random.Read(b)
		r := api.BitReader{S: string(b), Bit: random.Intn(8*len(b) + 1)}
		for n := range 33 {
			peeked, e := bits.Peek(r, n)
			_, taken, f := bits.Take(r, n)
			if left, _ := bits.Left(r); left >= n && (peeked != taken || e != api.OK || f != api.OK) {
				t.Fatalf("%x at bit %d: Peek of %d is %d, %v, and Take %d, %v", b, r.Bit, n, peeked, e, taken, f)
			}
		}
	}
}

// P2.1: a writer that was used is as it was: two results of it have nothing to do with each other.
func TestWriterTwice(t *testing.T) {
	w := put(t, api.BitWriter{}, 11, 0x2b5)
	kept := w
	one, two := put(t, w, 32, 0xffffffff), put(t, w, 32, 0)
	if w != kept || written(one) != written(w)+digits.Of(0xffffffff, 32) || written(two) != written(w)+digits.Of(0, 32) {
		t.Errorf("%v became %v, and %v and %v came of it", kept, w, one, two)
	}
}
