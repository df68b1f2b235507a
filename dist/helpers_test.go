package dist_test

import (
	"math/bits"
	"math/rand"
	"strings"

	"cheesepress/api"
	"cheesepress/digits"
	"cheesepress/dist"
	"cheesepress/samples"
)

// none tells whether a distribution is the zero value.
func none(d api.Dist) bool {
	return d.Log == 0 && len(d.Probs) == 0
}

// modelWidth are b and t of the chapter.
func modelWidth(left int) (b, t int) {
	b = bits.Len(uint(left + 1))
	return b, 1<<b - 1 - (left + 1)
}

// modelWrite are the bits of a description, as the chapter has them.
func modelWrite(d api.Dist) string {
	out := digits.Of(d.Log-5, 4)
	left := 1 << d.Log
	for i := 0; left > 0; i++ {
		b, t := modelWidth(left)
		v := d.Probs[i] + 1
		if v < t {
			out += digits.Of(v, b-1)
		} else if v < 1<<(b-1) {
			out += digits.Of(v, b)
		} else {
			out += digits.Of(v+t, b)
		}
		left -= max(d.Probs[i], -d.Probs[i])
		if d.Probs[i] != 0 {
			continue
		}
		zeros := 0
		for d.Probs[i+1] == 0 {
			zeros++
			i++
		}
		out += strings.Repeat("11", zeros/3) + digits.Of(zeros%3, 2)
	}
	return out
}

// modelRead reads a description bit by bit: the distribution, and how many bits it has; or an error.
func modelRead(s string, most, symbols int) (d api.Dist, used int, err api.Errno) {
	rest := digits.Text(s)
	all := len(rest)
	short := false
	next := func(n int) int {
		if n > len(rest) {
			short, rest = true, ""
			return 0
		}
		value := digits.Number(rest[:n])
		rest = rest[n:]
		return value
	}
	d.Log = 5 + next(4)
	if short {
		return api.Dist{}, 0, api.ErrTable
	}
	if d.Log > most {
		return api.Dist{}, 0, api.ErrAccuracy
	}
	for left := 1 << d.Log; left > 0; {
		b, t := modelWidth(left)
		v := next(b - 1)
		if v >= t {
			v += next(1) << (b - 1)
			if v >= 1<<(b-1) {
				v -= t
			}
		}
		d.Probs = append(d.Probs, v-1)
		left -= max(v-1, 1-v)
		for zeros := 3; v == 1 && zeros == 3; {
			zeros = next(2)
			d.Probs = append(d.Probs, samples.Full(zeros, 0)...)
		}
		if short || len(d.Probs) > symbols {
			return api.Dist{}, 0, api.ErrTable
		}
	}
	return d, all - len(rest), api.OK
}

// descriptions are strings that look like chance, of which many begin with a description.
func descriptions(n int) []string {
	chance := rand.New(rand.NewSource(int64(n)))
	list := make([]string, n)
	for i := range list {
		b := make([]byte, 1+chance.Intn(60))
		chance.Read(b)
		if i%3 == 0 {
			for j := range b {
				b[j] |= byte(chance.Intn(2) * 255)
			}
		}
		b[0] = b[0]&0xf0 | byte(chance.Intn(9))
		list[i] = string(b)
	}
	return list
}

// written is the description of a distribution that is right.
func written(d api.Dist) string {
	s, err := dist.Write(d)
	if err != api.OK {
		panic(err)
	}
	return s
}
