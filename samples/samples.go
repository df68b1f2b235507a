// Package samples has distributions and lengths of codes for the tests of the layers that build on them.
package samples

import (
	"math"
	"slices"

	"cheesepress/api"
)

const (
	minLog = 5   // the least accuracy
	chance = 400 // how many samples of a kind look like chance
)

// Spoilt is a distribution that is not right, and its error.
type Spoilt struct {
	Dist api.Dist
	Err  api.Errno
}

// Of returns a distribution.
func Of(log int, probs ...int) api.Dist {
	return api.Dist{Log: log, Probs: probs}
}

// Full returns n probabilities of which each is prob.
func Full(n, prob int) []int {
	return slices.Repeat([]int{prob}, n)
}

// Behind returns probabilities, and others behind them.
func Behind(probs []int, more ...int) []int {
	return append(slices.Clone(probs), more...)
}

// Right returns distributions that are right.
func Right() []api.Dist {
	list := []api.Dist{
		Of(5, 32), Of(12, 4096), Of(5, 16, 16), Of(5, 0, 32), Of(5, 31, -1), Of(5, -1, 31), Of(6, 30, 0, 0, 0, 34),
		Of(5, 31, 1), Of(5, 1, 31), Of(5, -1, 30, 1), Of(5, 1, 30, -1), Of(5, -1, 30, -1), Of(5, 16, 8, 8), Of(5, 16, 15, -1), Of(5, 20, 10, -1, 1),
		Of(5, Full(32, 1)...), Of(5, Full(32, -1)...), Of(5, Behind(Full(31, -1), 1)...), Of(5, Behind([]int{1}, Full(31, -1)...)...),
		Of(8, Full(256, 1)...), Of(8, Full(256, -1)...), Of(9, Behind(Full(255, -1), 257)...), Of(9, Behind([]int{257}, Full(255, -1)...)...), Of(12, Full(256, 16)...),
		Of(5, Behind(Full(255, 0), 32)...), Of(12, Behind(Full(255, 0), 4096)...), Of(5, Behind(Behind([]int{-1}, Full(254, 0)...), 31)...),
	}
	// Zeros beside the ends of their groups.
	for zeros := range 15 {
		list = append(list, Of(5, Behind(Full(zeros, 0), 32)...), Of(7, Behind(Behind([]int{3}, Full(zeros, 0)...), 124, -1)...))
	}
	var d dice
	for range chance {
		list = append(list, d.dist())
	}
	return list
}

// Wrong returns distributions that are not right.
func Wrong() []Spoilt {
	list := []Spoilt{
		{Of(5), api.ErrTable},
		{Of(5, 0), api.ErrTable},
		{Of(5, 32, 0), api.ErrTable},
		{Of(5, 31), api.ErrTable},
		{Of(5, 33), api.ErrTable},
		{Of(5, 32, 1), api.ErrTable},
		{Of(5, 32, -1), api.ErrTable},
		{Of(5, 31, 2), api.ErrTable},
		{Of(5, -2, 34), api.ErrTable},
		{Of(5, -2, 30), api.ErrTable},
		{Of(5, 34, -2), api.ErrTable},
		{Of(5, math.MinInt), api.ErrTable},
		{Of(5, math.MaxInt), api.ErrTable},
		{Of(5, math.MaxInt, math.MaxInt, 34), api.ErrTable},
		{Of(5, 32, math.MaxInt), api.ErrTable},
		{Of(12, 4095), api.ErrTable},
		{Of(12, 4096, 1), api.ErrTable},
		{Of(5, Full(31, -1)...), api.ErrTable},
		{Of(5, Full(33, -1)...), api.ErrTable},
		{Of(8, Full(257, 1)...), api.ErrTable},
		{Of(9, Behind(Full(256, 1), 256)...), api.ErrTable},
		{Of(5, Behind(Full(256, 0), 32)...), api.ErrTable},
		{Of(9, Full(256, 1)...), api.ErrTable},
	}
	for _, log := range []int{math.MinInt, -5, -1, 0, 1, 4, 13, 14, 62, 63, 64, 69, math.MaxInt} {
		size := 0
		if log >= 0 && log < 62 {
			size = 1 << log
		}
		list = append(list, Spoilt{Of(log, size), api.ErrAccuracy}, Spoilt{Of(log), api.ErrAccuracy}, Spoilt{Of(log, -2), api.ErrAccuracy}, Spoilt{Of(log, 32, 0), api.ErrAccuracy})
	}
	return list
}
