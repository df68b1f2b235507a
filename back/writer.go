package back

import "cheesepress/api"

// number is a value that is written as so many bits.
type number struct {
	bits  int
	value uint64
}

func (n number) right() bool {
	return isWidth(n.bits) && n.value>>n.bits == 0
}

// writer is a writer of package api that keeps its trouble: nothing is written behind an error.
type writer struct {
	api.BackWriter
	trouble
}

func edit(w api.BackWriter) *writer {
	to := &writer{BackWriter: w}
	// A Part below 0 is a great number without its sign.
	part := number{bits: w.N, value: uint64(w.Part)}
	if w.N >= byteBits || !part.right() || len(w.S) > api.MaxInput {
		to.meet(api.ErrState)
	}
	return to
}

// put writes numbers, up to the first one that cannot be written.
func (w *writer) put(numbers ...number) {
writing:
	for _, n := range numbers {
		switch {
		case w.met():
			break writing
		case !n.right():
			w.meet(api.ErrRange)
		case w.whole(n) > api.MaxInput:
			w.meet(api.ErrLong)
		default:
			w.add(n)
		}
	}
}

// whole returns how many whole bytes there would be with a number.
func (w *writer) whole(n number) int {
	return len(w.S) + (w.N+n.bits)/byteBits
}

// add writes a number that can be written.
func (w *writer) add(n number) {
	// At most 7 and 32 bits are together here.
	bits := uint64(w.Part) | n.value<<w.N
	whole := make([]byte, w.whole(n)-len(w.S))
	for i := range len(whole) {
		whole[i] = byte(bits >> (byteBits * i))
	}
	w.S += string(whole)
	w.Part = int(bits >> (byteBits * len(whole)))
	w.N = (w.N + n.bits) % byteBits
}

// end writes the bit 1 above all others, and bits 0 up to the end of its byte.
func (w *writer) end() {
	w.put(number{bits: 1, value: 1}, number{bits: byteBits - 1 - w.N})
}

// Check returns what is wrong with a writer, or OK.
func Check(w api.BackWriter) api.Errno {
	return edit(w).err
}

// Put writes value as n bits.
func Put(w api.BackWriter, n int, value uint64) (api.BackWriter, api.Errno) {
	to := edit(w)
	to.put(number{bits: n, value: value})
	if to.met() {
		return api.BackWriter{}, to.err
	}
	return to.BackWriter, api.OK
}

// Done returns the stream of a writer after it was ended.
func Done(w api.BackWriter) (string, api.Errno) {
	to := edit(w)
	to.end()
	if to.met() {
		return "", to.err
	}
	return to.S, api.OK
}
