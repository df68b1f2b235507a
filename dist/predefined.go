package dist

import (
	"slices"

	"cheesepress/api"
)

// run is how many symbols, one behind the other, have a probability.
type run struct {
	symbols int
	prob    int
}

// maxRuns is how many runs a predefined distribution has at most. Runs without symbols fill the others.
const maxRuns = 9

// Predefined returns the predefined distribution of a kind of codes.
func Predefined(kind int) (api.Dist, api.Errno) {
	d := api.Dist{Log: minLog}
	switch kind {
	case api.KindLits, api.KindMatch:
		// There are more codes of lengths than of offsets.
		d.Log++
		fallthrough
	case api.KindOffset:
		d.Probs = unrolled(predefined(kind))
		return d, api.OK
	}
	return api.Dist{}, api.ErrKind
}

// predefined returns the runs of a kind.
func predefined(kind int) [maxRuns]run {
	return [...][maxRuns]run{
		api.KindLits:   {{1, 4}, {1, 3}, {11, 2}, {3, 1}, {9, 2}, {1, 3}, {1, 2}, {5, 1}, {4, less}},
		api.KindOffset: {{6, 1}, {3, 2}, {15, 1}, {5, less}},
		api.KindMatch:  {{1, 1}, {1, 4}, {1, 3}, {6, 2}, {37, 1}, {7, less}},
	}[kind]
}

func unrolled(runs [maxRuns]run) []int {
	var probs []int
	for _, r := range runs {
		probs = append(probs, slices.Repeat([]int{r.prob}, r.symbols)...)
	}
	return probs
}
