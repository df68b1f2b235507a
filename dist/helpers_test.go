package dist_test

import (
	"math"
	"math/bits"
	"math/rand"
	"slices"
	"strings"

	"cheesepress/api"
	"cheesepress/digits"
	"cheesepress/dist"
)

// full are n probabilities of which each is prob.
func full(n, prob int) []int {
	return slices.Repeat([]int{prob}, n)
}

// behind are probabilities, and others behind them.
func behind(probs []int, more ...int) []int {
	return append(slices.Clone(probs), more...)
}

func distOf(log int, probs ...int) api.Dist {
	return api.Dist{Log: log, Probs: probs}
}

// none tells whether a distribution is the zero value.
func none(d api.Dist) bool {
	return d.Log == 0 && len(d.Probs) == 0
}

// chanceDist is a distribution with zeros and -1 among its probabilities.
func chanceDist(chance *rand.Rand) api.Dist {
	d := api.Dist{Log: 5 + chance.Intn(8)}
	zeros := chance.Intn(10)
	greatest := 1 + chance.Intn(1<<d.Log)
	for left := 1 << d.Log; left > 0; {
		prob := 0
		switch {
		case len(d.Probs) == 255:
			prob = left
		case chance.Intn(10) < zeros:
		case chance.Intn(4) == 0:
			prob = -1
		default:
			prob = 1 + chance.Intn(min(left, greatest))
		}
		d.Probs = append(d.Probs, prob)
		left -= max(prob, -prob)
	}
	return d
}

// right are distributions that are right.
func right() []api.Dist {
	list := []api.Dist{
		distOf(5, 32), distOf(12, 4096), distOf(5, 16, 16), distOf(5, 0, 32), distOf(5, 31, -1), distOf(5, -1, 31), distOf(6, 30, 0, 0, 0, 34),
		distOf(5, full(32, 1)...), distOf(5, full(32, -1)...), distOf(8, full(256, 1)...), distOf(8, full(256, -1)...), distOf(12, full(256, 16)...),
		distOf(5, behind(full(255, 0), 32)...), distOf(12, behind(full(255, 0), 4096)...), distOf(5, behind(behind([]int{-1}, full(254, 0)...), 31)...),
	}
	// Zeros beside the ends of their groups.
	for zeros := range 15 {
		list = append(list, distOf(5, behind(full(zeros, 0), 32)...), distOf(7, behind(behind([]int{3}, full(zeros, 0)...), 124, -1)...))
	}
	chance := rand.New(rand.NewSource(8))
	for range 400 {
		list = append(list, chanceDist(chance))
	}
	return list
}

// wrong are distributions that are not right, each with its error.
func wrong() []struct {
	d   api.Dist
	err api.Errno
} {
	type c = struct {
		d   api.Dist
		err api.Errno
	}
	list := []c{
		{distOf(5), api.ErrTable},
		{distOf(5, 0), api.ErrTable},
		{distOf(5, 32, 0), api.ErrTable},
		{distOf(5, 31), api.ErrTable},
		{distOf(5, 33), api.ErrTable},
		{distOf(5, 32, 1), api.ErrTable},
		{distOf(5, 32, -1), api.ErrTable},
		{distOf(5, 31, 2), api.ErrTable},
		{distOf(5, -2, 34), api.ErrTable},
		{distOf(5, -2, 30), api.ErrTable},
		{distOf(5, 34, -2), api.ErrTable},
		{distOf(5, math.MinInt), api.ErrTable},
		{distOf(5, math.MaxInt), api.ErrTable},
		{distOf(5, math.MaxInt, math.MaxInt, 34), api.ErrTable},
		{distOf(5, 32, math.MaxInt), api.ErrTable},
		{distOf(12, 4095), api.ErrTable},
		{distOf(12, 4096, 1), api.ErrTable},
		{distOf(5, full(31, -1)...), api.ErrTable},
		{distOf(5, full(33, -1)...), api.ErrTable},
		{distOf(8, full(257, 1)...), api.ErrTable},
		{distOf(9, behind(full(256, 1), 256)...), api.ErrTable},
		{distOf(5, behind(full(256, 0), 32)...), api.ErrTable},
		{distOf(9, full(256, 1)...), api.ErrTable},
	}
	for _, log := range []int{math.MinInt, -5, -1, 0, 1, 4, 13, 14, 62, 63, 64, 69, math.MaxInt} {
		size := 0
		if log >= 0 && log < 62 {
			size = 1 << log
		}
		list = append(list, c{distOf(log, size), api.ErrAccuracy}, c{distOf(log), api.ErrAccuracy}, c{distOf(log, -2), api.ErrAccuracy}, c{distOf(log, 32, 0), api.ErrAccuracy})
	}
	return list
}

// modelWidth are b and t of the chapter.
func modelWidth(left int) (b, t int) {
	b = bits.Len(uint(left + 1))
	return b, 1<<b - 1 - (left + 1)
}

// modelWrite are the bits of a description, as the chapter has them.
func modelWrite(d api.Dist) string {
	out := digits.Of(d.Log-5, 4)
	left := 1 << d.Log
	for i := 0; left > 0; i++ {
		b, t := modelWidth(left)
		v := d.Probs[i] + 1
		if v < t {
			out += digits.Of(v, b-1)
		} else if v < 1<<(b-1) {
			out += digits.Of(v, b)
		} else {
			out += digits.Of(v+t, b)
		}
		left -= max(d.Probs[i], -d.Probs[i])
		if d.Probs[i] != 0 {
			continue
		}
		zeros := 0
		for d.Probs[i+1] == 0 {
			zeros++
			i++
		}
		out += strings.Repeat("11", zeros/3) + digits.Of(zeros%3, 2)
	}
	return out
}

// modelRead reads a description bit by bit: the distribution, and how many bits it has; or an error.
func modelRead(s string, most, symbols int) (d api.Dist, used int, err api.Errno) {
	rest := digits.Text(s)
	all := len(rest)
	short := false
	next := func(n int) int {
		if n > len(rest) {
			short, rest = true, ""
			return 0
		}
		value := digits.Number(rest[:n])
		rest = rest[n:]
		return value
	}
	d.Log = 5 + next(4)
	if short {
		return api.Dist{}, 0, api.ErrTable
	}
	if d.Log > most {
		return api.Dist{}, 0, api.ErrAccuracy
	}
	for left := 1 << d.Log; left > 0; {
		b, t := modelWidth(left)
		v := next(b - 1)
		if v >= t {
			v += next(1) << (b - 1)
			if v >= 1<<(b-1) {
				v -= t
			}
		}
		d.Probs = append(d.Probs, v-1)
		left -= max(v-1, 1-v)
		for zeros := 3; v == 1 && zeros == 3; {
			zeros = next(2)
			d.Probs = append(d.Probs, full(zeros, 0)...)
		}
		if short || len(d.Probs) > symbols {
			return api.Dist{}, 0, api.ErrTable
		}
	}
	return d, all - len(rest), api.OK
}

// descriptions are strings that look like chance, of which many begin with a description.
func descriptions(n int) []string {
	chance := rand.New(rand.NewSource(int64(n)))
	list := make([]string, n)
	for i := range list {
		b := make([]byte, 1+chance.Intn(60))
		chance.Read(b)
		if i%3 == 0 {
			for j := range b {
				b[j] |= byte(chance.Intn(2) * 255)
			}
		}
		b[0] = b[0]&0xf0 | byte(chance.Intn(9))
		list[i] = string(b)
	}
	return list
}

// written is the description of a distribution that is right.
func written(d api.Dist) string {
	s, err := dist.Write(d)
	if err != api.OK {
		panic(err)
	}
	return s
}
