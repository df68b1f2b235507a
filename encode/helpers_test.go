package encode_test

import (
	"math"
	"math/rand"
	"slices"
	"testing"

	"cheesepress/api"
	"cheesepress/encode"
	"cheesepress/samples"
	"cheesepress/spread"
)

// of calls Of where that must succeed.
func of(t *testing.T, d api.Dist) api.EncodeTable {
	t.Helper()
	table, err := encode.Of(d)
	if err != api.OK {
		t.Fatalf("Of(%v): %v", d, err)
	}
	return table
}

// small are distributions that are right with a Log of at most 6.
func small() []api.Dist {
	return slices.DeleteFunc(samples.Right(), func(d api.Dist) bool { return d.Log > 6 })
}

// modelOf is the encode table that the chapter describes.
func modelOf(d api.Dist) api.EncodeTable {
	t := api.EncodeTable{Log: d.Log}
	for symbol := range d.Probs {
		cells, _ := spread.Cells(d, symbol)
		t.States = append(t.States, cells)
	}
	return t
}

// modelStep tries each number of bits.
func modelStep(t api.EncodeTable, state, symbol int) (next, bits, value int) {
	x := state + 1<<t.Log
	p := len(t.States[symbol])
	for x>>bits >= 2*p {
		bits++
	}
	return t.States[symbol][x>>bits-p], bits, x % (1 << bits)
}

// same tells whether two tables are equal.
func same(a, b api.EncodeTable) bool {
	return a.Log == b.Log && slices.EqualFunc(a.States, b.States, slices.Equal[[]int])
}

// none tells whether a table is the zero value.
func none(t api.EncodeTable) bool {
	return same(t, api.EncodeTable{})
}

// clone is a table that shares nothing with t.
func clone(t api.EncodeTable) api.EncodeTable {
	lists := make([][]int, len(t.States))
	for symbol, cells := range t.States {
		lists[symbol] = slices.Clone(cells)
	}
	return api.EncodeTable{Log: t.Log, States: lists}
}

// handmade are tables that are right, but of no distribution.
func handmade() []api.EncodeTable {
	full := make([][]int, 256)
	full[255] = []int{0}
	all := make([]int, 4096)
	for cell := range all {
		all[cell] = cell
	}
	return []api.EncodeTable{
		{Log: 0, States: [][]int{{0}}}, {Log: 0, States: [][]int{nil, {}, {0}, nil}}, {Log: 0, States: full},
		{Log: 1, States: [][]int{{1}, {0}}}, {Log: 1, States: [][]int{{0, 1}}}, {Log: 2, States: [][]int{{3}, nil, {0, 1, 2}}},
		{Log: 3, States: [][]int{{5}, {0, 2, 7}, {1, 3, 4, 6}}}, {Log: 4, States: [][]int{{0, 15}, {1, 2, 3, 4, 5, 6, 7, 8, 9, 10, 11, 12, 13, 14}}},
		{Log: 5, States: [][]int{all[:16], all[16:32]}}, {Log: 5, States: [][]int{all[16:32], all[:16]}}, {Log: 12, States: [][]int{all}}, {Log: 12, States: [][]int{all[4095:], all[:4095]}},
	}
}

// wrong are tables that are not right, each with its error.
func wrong() []struct {
	t   api.EncodeTable
	err api.Errno
} {
	type c = struct {
		t   api.EncodeTable
		err api.Errno
	}
	many := make([][]int, 257)
	many[0] = []int{0}
	list := []c{
		{api.EncodeTable{}, api.ErrForm},
		{api.EncodeTable{States: [][]int{nil}}, api.ErrForm},
		{api.EncodeTable{States: [][]int{{0}, {0}}}, api.ErrForm},
		{api.EncodeTable{States: [][]int{{0, 0}}}, api.ErrForm},
		{api.EncodeTable{States: [][]int{{1}}}, api.ErrForm},
		{api.EncodeTable{States: [][]int{{0, 1}}}, api.ErrForm},
		{api.EncodeTable{States: [][]int{{-1}}}, api.ErrForm},
		{api.EncodeTable{States: [][]int{{-1, 0}}}, api.ErrForm},
		{api.EncodeTable{States: [][]int{{math.MinInt}, {math.MaxInt}}}, api.ErrForm},
		{api.EncodeTable{Log: 1, States: [][]int{{1, 0}}}, api.ErrForm},
		{api.EncodeTable{Log: 1, States: [][]int{{0}}}, api.ErrForm},
		{api.EncodeTable{Log: 1, States: [][]int{{1}}}, api.ErrForm},
		{api.EncodeTable{Log: 1, States: [][]int{{0}, {0}}}, api.ErrForm},
		{api.EncodeTable{Log: 1, States: [][]int{{0, 1}, {1}}}, api.ErrForm},
		{api.EncodeTable{Log: 1, States: [][]int{{0}, {2}}}, api.ErrForm},
		{api.EncodeTable{Log: 2, States: [][]int{{0, 2, 1}, {3}}}, api.ErrForm},
		{api.EncodeTable{Log: 2, States: [][]int{{0, 1}, {3}}}, api.ErrForm},
		{api.EncodeTable{Log: 2, States: [][]int{{0, 1, 1}, {3}}}, api.ErrForm},
		{api.EncodeTable{Log: 2, States: [][]int{{0, 1}, {1, 3}}}, api.ErrForm},
		{api.EncodeTable{Log: 12, States: [][]int{{4095}}}, api.ErrForm},
		{api.EncodeTable{Log: 12, States: [][]int{{4096}}}, api.ErrForm},
		{api.EncodeTable{States: many}, api.ErrRange},
		{api.EncodeTable{States: make([][]int, 257)}, api.ErrRange},
	}
	for _, log := range []int{math.MinInt, -64, -1, 13, 14, 63, 64, 65, math.MaxInt} {
		list = append(list, c{api.EncodeTable{Log: log, States: [][]int{{0}}}, api.ErrRange}, c{api.EncodeTable{Log: log}, api.ErrRange}, c{api.EncodeTable{Log: log, States: [][]int{{-1, 7}}}, api.ErrRange})
	}
	return list
}

// outside are numbers of no symbol of a table.
func outside(t api.EncodeTable) []int {
	list := []int{math.MinInt, -256, -1, len(t.States), len(t.States) + 1, 256, math.MaxInt}
	for symbol, cells := range t.States {
		if len(cells) == 0 {
			list = append(list, symbol)
		}
	}
	return list
}

// chanceList are n symbols of a distribution that have cells.
func chanceList(d api.Dist, n int) []int {
	chance := rand.New(rand.NewSource(int64(n)))
	cells, _ := spread.Of(d)
	l := make([]int, n)
	for i := range l {
		l[i] = cells[chance.Intn(len(cells))]
	}
	return l
}
