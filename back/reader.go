package back

import "cheesepress/api"

// maxSpan is how many bytes the bits of a number lie in at most: it may begin within a byte, and end within another.
const maxSpan = 1 + maxBits/byteBits

// reader is a reader of package api that keeps its trouble: nothing is read behind an error.
type reader struct {
	api.BackReader
	trouble
}

func look(r api.BackReader) *reader {
	from := &reader{BackReader: r}
	if count, err := Bits(r.S); err != api.OK || r.Left < 0 || r.Left > count {
		from.meet(api.ErrState)
	}
	return from
}

// peek returns the number of the next n bits, with bits 0 behind those that are left.
func (r *reader) peek(n int) uint64 {
	if !isWidth(n) {
		r.meet(api.ErrRange)
	}
	if r.met() {
		return 0
	}
	there := min(n, r.Left)
	return r.next(there) << (n - there)
}

// next returns the number of the next n bits, which are left.
func (r *reader) next(n int) uint64 {
	from := r.Left - n
	first := from / byteBits
	var bits uint64
	for i := range min(maxSpan, len(r.S)-first) {
		bits |= uint64(r.S[first+i]) << (byteBits * i)
	}
	return bits >> (from % byteBits) & (1<<n - 1)
}

// take reads n bits.
func (r *reader) take(n int) uint64 {
	value := r.peek(n)
	if n > r.Left {
		r.meet(api.ErrShort)
	}
	if r.met() {
		return 0
	}
	r.Left -= n
	return value
}

// highest returns which bit of a byte that is not 0 is the highest one that is 1.
func highest(b byte) int {
	high := 0
	for i := range byteBits {
		if b>>i&1 == 1 {
			high = i
		}
	}
	return high
}

// Bits returns how many bits a backward stream has.
func Bits(s string) (int, api.Errno) {
	if len(s) > api.MaxInput {
		return 0, api.ErrLong
	}
	last := len(s) - 1
	if last < 0 || s[last] == 0 {
		return 0, api.ErrStream
	}
	return byteBits*last + highest(s[last]), api.OK
}

// Read returns the reader of a backward stream with all bits left.
func Read(s string) (api.BackReader, api.Errno) {
	count, err := Bits(s)
	if err != api.OK {
		return api.BackReader{}, err
	}
	return api.BackReader{S: s, Left: count}, api.OK
}

// Right returns what is wrong with a reader, or OK.
func Right(r api.BackReader) api.Errno {
	return look(r).err
}

// Take reads n bits.
func Take(r api.BackReader, n int) (next api.BackReader, value uint64, err api.Errno) {
	from := look(r)
	value = from.take(n)
	if from.met() {
		return api.BackReader{}, 0, from.err
	}
	return from.BackReader, value, api.OK
}

// Peek returns the number of the next n bits, and reads none.
func Peek(r api.BackReader, n int) (uint64, api.Errno) {
	from := look(r)
	value := from.peek(n)
	return value, from.err
}

// Skip reads n bits without their number.
func Skip(r api.BackReader, n int) (api.BackReader, api.Errno) {
	next, _, err := Take(r, n)
	return next, err
}
