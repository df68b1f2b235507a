package weight

import "cheesepress/api"

const (
	maxDirect  = 128               // so many weights have a direct description at most
	mark       = 127               // the first byte is this, and how many weights there are
	weightBits = 4                 // how many bits of a byte are a weight
	lowest     = 1<<weightBits - 1 // the bits of the second weight in a byte
)

// Direct returns the direct description of listed weights.
func Direct(listed []int) (string, api.Errno) {
	if err := Right(listed); err != api.OK {
		return "", err
	}
	if len(listed) > maxDirect {
		return "", api.ErrLong
	}
	return packed(listed), api.OK
}

// packed returns the number of weights, and then two of them in each byte.
func packed(listed []int) string {
	bytes := []byte{byte(mark + len(listed))}
writing:
	for rest := listed; ; rest = rest[2:] {
		switch len(rest) {
		case 0:
			break writing
		case 1:
			bytes = append(bytes, byte(rest[0]<<weightBits))
			break writing
		}
		bytes = append(bytes, byte(rest[0]<<weightBits|rest[1]))
	}
	return string(bytes)
}

// ReadDirect reads the direct description that begins at at.
func ReadDirect(s string, at int) (listed []int, next int, f api.Fault) {
	if at < 0 || at > len(s) {
		return nil, 0, api.Fault{Err: api.ErrRange}
	}
	r := reader{place: place{s: s, at: at}}
	listed, err := r.description()
	switch err {
	case api.OK:
		return listed, r.at, api.Fault{}
	case api.ErrShort:
		return nil, 0, api.Fault{Err: api.ErrShort, At: len(s)}
	}
	return nil, 0, api.Fault{Err: api.ErrTree, At: at}
}

// place is an offset in a string.
type place struct {
	s  string
	at int
}

// left returns how many bytes there are from the place on.
func (p *place) left() int {
	return len(p.s) - p.at
}

// next returns the byte at the place, which must be there, and goes on behind it.
func (p *place) next() int {
	b := p.s[p.at]
	p.at++
	return int(b)
}

// reader reads a direct description.
type reader struct {
	place
}

// description reads the number of weights, and the weights.
func (r *reader) description() ([]int, api.Errno) {
	if r.left() == 0 {
		return nil, api.ErrShort
	}
	n := r.next() - mark
	switch {
	case n < 1:
		return nil, api.ErrTree
	case r.left() < (n+1)/2:
		return nil, api.ErrShort
	}
	listed := r.weights(n)
	return listed, Right(listed)
}

// weights reads n weights, whose bytes must be there.
func (r *reader) weights(n int) []int {
	var list []int
	for len(list) < n {
		both := r.next()
		list = append(list, both>>weightBits, both&lowest)
	}
	// The second half of the last byte may be no weight.
	return list[:n:n]
}
