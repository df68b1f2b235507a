package bits

import "cheesepress/api"

// maxSpan is how many bytes the bits of a number lie in at most: it may begin within a byte, and end within another.
const maxSpan = 1 + maxBits/byteBits

// reader is a reader of package api with methods, which its type has none of there.
type reader struct {
	api.BitReader
}

func (r reader) check() api.Errno {
	if len(r.S) > api.MaxInput {
		return api.ErrLong
	}
	if r.Bit < 0 || r.Bit > byteBits*len(r.S) {
		return api.ErrRange
	}
	return api.OK
}

// refuse returns why n bits cannot be read, whether they are left or not, or OK.
func (r reader) refuse(n int) api.Errno {
	if err := r.check(); err != api.OK {
		return err
	}
	if !isWidth(n) {
		return api.ErrRange
	}
	return api.OK
}

func (r reader) left() int {
	return byteBits*len(r.S) - r.Bit
}

// peek returns the number of the next n bits, with bits 0 behind the end.
func (r reader) peek(n int) int {
	first := wholeBytes(r.Bit)
	var bits uint64
	for i := range min(maxSpan, len(r.S)-first) {
		bits |= uint64(r.S[first+i]) << (byteBits * i)
	}
	bits >>= r.Bit % byteBits
	return int(bits & (1<<n - 1))
}

// Right returns what is wrong with a reader, or OK.
func Right(r api.BitReader) api.Errno {
	return reader{r}.check()
}

// Read returns the reader at the first bit of the byte at.
func Read(s string, at int) (api.BitReader, api.Errno) {
	if len(s) > api.MaxInput {
		return api.BitReader{}, api.ErrLong
	}
	if at < 0 || at > len(s) {
		return api.BitReader{}, api.ErrRange
	}
	return api.BitReader{S: s, Bit: byteBits * at}, api.OK
}

// Take reads n bits.
func Take(r api.BitReader, n int) (api.BitReader, int, api.Errno) {
	from := reader{r}
	if err := from.refuse(n); err != api.OK {
		return api.BitReader{}, 0, err
	}
	if n > from.left() {
		return api.BitReader{}, 0, api.ErrShort
	}
	value := from.peek(n)
	from.Bit += n
	return from.BitReader, value, api.OK
}

// Peek returns the number of the next n bits, and reads none.
func Peek(r api.BitReader, n int) (int, api.Errno) {
	from := reader{r}
	if err := from.refuse(n); err != api.OK {
		return 0, err
	}
	return from.peek(n), api.OK
}

// Left returns how many bits are left.
func Left(r api.BitReader) (int, api.Errno) {
	from := reader{r}
	if err := from.check(); err != api.OK {
		return 0, err
	}
	return from.left(), api.OK
}

// Next returns the offset of the first byte of which no bit was read.
func Next(r api.BitReader) (int, api.Errno) {
	if err := Right(r); err != api.OK {
		return 0, err
	}
	return wholeBytes(r.Bit + byteBits - 1), api.OK
}
