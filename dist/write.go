package dist

import (
	"slices"

	"cheesepress/api"
	"cheesepress/bits"
)

const byteBits = 8 // how many bits a byte has

// writer writes a description. Its numbers fit, and they are not many, so they are never refused.
type writer struct {
	out api.BitWriter
}

func (w *writer) put(n, value int) {
	w.out, _ = bits.Put(w.out, n, value)
}

// describe writes a distribution that is right.
func (w *writer) describe(d api.Dist) {
	w.put(logBits, d.Log-minLog)
	left, take := Size(d), pointsOf(Size(d))
	for i := 0; i < len(d.Probs); i++ {
		w.prob(d.Probs[i], left)
		left = take(d.Probs[i])
		if d.Probs[i] == 0 {
			i += w.zeros(d.Probs[i+1:])
		}
	}
}

// prob writes a probability in front of which so many points are left.
func (w *writer) prob(prob, left int) {
	value, size := prob+1, widthOf(left)
	switch {
	case value < size.short:
		w.put(size.bits-1, value)
	case value < size.half():
		w.put(size.bits, value)
	default:
		w.put(size.bits, value+size.short)
	}
}

// zeros writes with how many zeros a list begins, behind which there is another probability, and returns it.
func (w *writer) zeros(probs []int) int {
	all := slices.IndexFunc(probs, func(prob int) bool { return prob != 0 })
	rest := all
	for ; rest >= group; rest -= group {
		w.put(zeroBits, group)
	}
	w.put(zeroBits, rest)
	return all
}

// Write returns the description of a distribution.
func Write(d api.Dist) (string, api.Errno) {
	if err := Check(d); err != api.OK {
		return "", err
	}
	var w writer
	w.describe(d)
	return bits.Done(w.out)
}

// Bits returns how many bits the description has before it is filled.
func Bits(d api.Dist) (int, api.Errno) {
	if err := Check(d); err != api.OK {
		return 0, err
	}
	var w writer
	w.describe(d)
	return byteBits*len(w.out.S) + w.out.N, api.OK
}
