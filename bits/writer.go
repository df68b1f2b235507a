package bits

import "cheesepress/api"

// number is a value that is written as so many bits.
type number struct {
	bits  int
	value int
}

func (n number) right() bool {
	return isWidth(n.bits) && n.value >= 0 && n.value>>n.bits == 0
}

// draft is a writer of package api with methods, which its type has none of there.
type draft struct {
	api.BitWriter
}

func (d draft) check() api.Errno {
	part := number{bits: d.N, value: d.Part}
	if d.N >= byteBits || !part.right() {
		return api.ErrRange
	}
	if len(d.S) > api.MaxInput {
		return api.ErrLong
	}
	return api.OK
}

// refuse returns why a number cannot be written, or OK.
func (d draft) refuse(n number) api.Errno {
	if !n.right() {
		return api.ErrRange
	}
	if len(d.S)+wholeBytes(d.N+n.bits) > api.MaxInput {
		return api.ErrLong
	}
	return api.OK
}

// add writes a number that is not refused.
func (d *draft) add(n number) {
	// At most 7 and 32 bits are together here.
	bits := uint64(d.Part) | uint64(n.value)<<d.N
	count := d.N + n.bits
	whole := make([]byte, wholeBytes(count))
	for i := range len(whole) {
		whole[i] = byte(bits)
		bits >>= byteBits
	}
	d.S += string(whole)
	d.Part, d.N = int(bits), count%byteBits
}

// padding is the number that makes the bytes whole.
func (d draft) padding() number {
	return number{bits: (byteBits - d.N) % byteBits}
}

// writer is a draft that keeps its first error: nothing is written behind one.
type writer struct {
	draft
	err api.Errno
}

func open(w api.BitWriter) *writer {
	d := draft{w}
	return &writer{draft: d, err: d.check()}
}

// put writes numbers, up to the first one that is refused.
func (w *writer) put(numbers ...number) {
	for _, n := range numbers {
		if w.err == api.OK {
			w.err = w.refuse(n)
		}
		if w.err == api.OK {
			w.add(n)
		}
	}
}

// result returns what was written, or nothing with an error.
func (w *writer) result() (api.BitWriter, api.Errno) {
	if w.err != api.OK {
		return api.BitWriter{}, w.err
	}
	return w.BitWriter, api.OK
}

// Check returns what is wrong with a writer, or OK.
func Check(w api.BitWriter) api.Errno {
	return open(w).err
}

// Put writes value as n bits.
func Put(w api.BitWriter, n, value int) (api.BitWriter, api.Errno) {
	to := open(w)
	to.put(number{bits: n, value: value})
	return to.result()
}

// Align writes bits 0 up to the end of the byte.
func Align(w api.BitWriter) (api.BitWriter, api.Errno) {
	to := open(w)
	to.put(to.padding())
	return to.result()
}

// Done returns the bytes of a writer after it was aligned.
func Done(w api.BitWriter) (string, api.Errno) {
	aligned, err := Align(w)
	return aligned.S, err
}
