package tree

import (
	"cheesepress/api"
	"cheesepress/counts"
	"cheesepress/dist"
	"cheesepress/fse"
	"cheesepress/norm"
	"cheesepress/weight"
)

const (
	maxLog     = 6              // the greatest accuracy of a distribution of weights
	kinds      = api.MaxHuf + 1 // how many different weights there are
	fewest     = 2              // so many different ones are listed at least
	maxBytes   = 127            // how many bytes follow the first one at most
	leastOther = maxBytes + 1   // first bytes from here on begin the direct form
)

// isDirect tells whether a string, which is not empty, begins with the direct form.
func isDirect(s string) bool {
	return s[0] >= leastOther
}

// isCut tells whether a string, which is not empty, begins with the FSE form, and ends before this.
func isCut(s string) bool {
	return !isDirect(s) && len(s)-1 < int(s[0])
}

// Fse returns the FSE form of listed weights.
func Fse(listed []int) (string, api.Errno) {
	if err := weight.Right(listed); err != api.OK {
		return "", err
	}
	// Weights that are right can be counted.
	found, _ := counts.Symbols(listed, api.MaxHuf)
	if distinct, _ := counts.Distinct(found); distinct < fewest {
		return "", api.ErrMissing
	}
	// Two different weights have a distribution, which covers all of them.
	d, _ := norm.Of(found, maxLog)
	description, _ := dist.Write(d)
	stream, _ := fse.WriteTwo(d, listed)
	size := len(description) + len(stream)
	if size > maxBytes {
		return "", api.ErrMissing
	}
	return string([]byte{byte(size)}) + description + stream, api.OK
}

// weightsOf reads the weights in the FSE form, of which it has the bytes behind the first one. These begin at from in the whole string.
func weightsOf(s string, from int) (listed []int, f api.Fault) {
	defer func() {
		if f.Err != api.OK {
			f.At += from
		}
	}()
	d, begin, f := dist.Read(s, 0, maxLog, kinds)
	if f.Err != api.OK {
		return nil, f
	}
	listed, err := fse.ReadTwo(d, s[begin:])
	if err != api.OK {
		return nil, api.Fault{Err: err, At: begin}
	}
	return listed, api.Fault{}
}
