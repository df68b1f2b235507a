package cursor

import "cheesepress/api"

const (
	byteBits  = 8 // how many bits a byte has
	maxNumber = 8 // how many bytes a number has at most
)

// The kinds of fields.
const (
	numberField = iota
	bytesField
)

// reader is a cursor by which fields are read.
type reader struct {
	keeper
}

// open returns the reader of a cursor. One that is not valid counts as one without bytes.
func open(c api.Cursor) *reader {
	r := &reader{keeper{c}}
	if !r.valid() {
		r.Cursor = api.Cursor{Fault: api.Fault{Err: api.ErrState}}
	}
	return r
}

// pass goes through a field of n bytes, and returns them: none with a fault.
func (r *reader) pass(kind, n int) (bytes string) {
	var found api.Fault
	defer func() { r.keep(found) }()
	switch kind {
	case numberField:
		if n < 1 || n > maxNumber {
			found = api.Fault{Err: api.ErrRange, At: r.At}
			break
		}
		// A number is bytes, too, and has their bounds.
		fallthrough
	case bytesField:
		switch {
		case n < 0:
			found = api.Fault{Err: api.ErrRange, At: r.At}
		case n > r.left():
			found = api.Fault{Err: api.ErrShort, At: len(r.S)}
		default:
			bytes = r.S[r.At : r.At+n]
			r.At += n
		}
	}
	return bytes
}

// number reads a field of n bytes as a number, the lowest byte first.
func (r *reader) number(n int) (value uint64) {
	bytes := r.pass(numberField, n)
	for i := range len(bytes) {
		value |= uint64(bytes[i]) << (byteBits * i)
	}
	return value
}
