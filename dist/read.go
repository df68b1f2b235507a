package dist

import (
	"errors"
	"strconv"

	"cheesepress/api"
	"cheesepress/bits"
)

// spoilt is an error that was met behind so many probabilities of a description.
type spoilt struct {
	err    error
	behind int
}

func (s spoilt) Error() string {
	return s.err.Error() + " behind " + strconv.Itoa(s.behind) + " probabilities"
}

func (s spoilt) Unwrap() error {
	return s.err
}

// told returns the error by which the document calls one that was met in a description.
func told(err error) api.Errno {
	switch {
	case err == nil:
		return api.OK
	case errors.Is(err, api.ErrAccuracy):
		return api.ErrAccuracy
	}
	// The bits were used up, or there were too many probabilities.
	return api.ErrTable
}

// reader reads a description, and keeps the first error that it meets. Behind one all numbers are 0.
type reader struct {
	from    api.BitReader
	symbols int // how many probabilities there are at most
	probs   []int
	err     error
}

// meet keeps an error, unless it is none, or another one was met before.
func (r *reader) meet(err api.Errno) {
	if err != api.OK && r.err == nil {
		r.err = spoilt{err: err, behind: len(r.probs)}
	}
}

// take reads n bits.
func (r *reader) take(n int) int {
	if r.err != nil {
		return 0
	}
	next, value, err := bits.Take(r.from, n)
	r.from = next
	r.meet(err)
	return value
}

// log reads the accuracy.
func (r *reader) log(most int) int {
	log := minLog + r.take(logBits)
	if log > most {
		r.meet(api.ErrAccuracy)
	}
	return log
}

// prob reads a probability in front of which so many points are left.
func (r *reader) prob(left int) int {
	size := widthOf(left)
	// Bits that are not there count as 0 here, but they are missed when they are taken.
	value, _ := bits.Peek(r.from, size.bits-1)
	if value < size.short {
		return r.take(size.bits-1) - 1
	}
	value = r.take(size.bits)
	if value >= size.half() {
		value -= size.short
	}
	return value - 1
}

// add adds a probability to those that were read.
func (r *reader) add(prob int) {
	if len(r.probs) == r.symbols {
		r.meet(api.ErrFull)
		return
	}
	r.probs = append(r.probs, prob)
}

// fill reads probabilities until all points are taken.
func (r *reader) fill(size int) {
	left, take := size, pointsOf(size)
filling:
	for left > 0 && r.err == nil {
		prob := r.prob(left)
		r.add(prob)
		left = take(prob)
		if prob != 0 {
			continue
		}
		for {
			zeros := r.take(zeroBits)
			for range zeros {
				r.add(0)
			}
			if zeros < group {
				continue filling
			}
		}
	}
}

// Read reads the description that begins at at. A distribution has the accuracy most, and so many symbols, at most.
func Read(s string, at, most, symbols int) (d api.Dist, next int, f api.Fault) {
	if at < 0 || at > len(s) || most < minLog || most > api.MaxLog || symbols < 1 || symbols > api.MaxSymbols {
		return api.Dist{}, 0, api.Fault{Err: api.ErrRange}
	}
	// No description needs as many bytes as a reader of bits may have.
	r := reader{from: api.BitReader{S: s[at:min(len(s), at+api.MaxInput)]}, symbols: symbols}
	log := r.log(most)
	r.fill(1 << log)
	if r.err != nil {
		return api.Dist{}, 0, api.Fault{Err: told(r.err), At: at}
	}
	length, _ := bits.Next(r.from)
	return api.Dist{Log: log, Probs: r.probs}, at + length, api.Fault{}
}
