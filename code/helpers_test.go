package code_test

import (
	"math"
	"math/rand"
	"slices"
	"testing"

	"cheesepress/api"
	"cheesepress/code"
	"cheesepress/samples"
)

// judged are lengths, and the error that they have.
type judged struct {
	lengths []int
	err     api.Errno
}

// wrongLengths are lengths that are not right. Layer 13 has two errors more for them.
func wrongLengths() []judged {
	var list []judged
	for _, c := range samples.WrongLengths() {
		err := c.Err
		switch err {
		case api.ErrFull:
			err = api.ErrRange
		case api.ErrMissing:
			err = api.ErrTree
		}
		list = append(list, judged{c.Lengths, err})
	}
	return list
}

// modelCells are the symbols of all cells, one length after the other.
func modelCells(lengths []int) []int {
	most := slices.Max(lengths)
	var cells []int
	for bits := most; bits > 0; bits-- {
		for symbol, length := range lengths {
			if length == bits {
				cells = append(cells, samples.Full(1<<(most-bits), symbol)...)
			}
		}
	}
	return cells
}

// modelCodes are the codes of all symbols, by their first cells.
func modelCodes(lengths []int) []api.Code {
	most, cells := slices.Max(lengths), modelCells(lengths)
	list := make([]api.Code, len(lengths))
	for symbol, length := range lengths {
		if length > 0 {
			list[symbol] = api.Code{Bits: length, Value: slices.Index(cells, symbol) / (1 << (most - length))}
		}
	}
	return list
}

// codes is the result of Codes, where there must be one.
func codes(t *testing.T, lengths []int) []api.Code {
	t.Helper()
	l, err := code.Codes(lengths)
	if err != api.OK {
		t.Fatalf("Codes(%v): %v", lengths, err)
	}
	return l
}

// table is the result of Table, where there must be one.
func table(t *testing.T, lengths []int) []api.Cell {
	t.Helper()
	l, err := code.Table(lengths)
	if err != api.OK {
		t.Fatalf("Table(%v): %v", lengths, err)
	}
	return l
}

// bits is the result of Bits, where there must be one.
func bits(t *testing.T, lengths, counts []int) int {
	t.Helper()
	n, err := code.Bits(lengths, counts)
	if err != api.OK {
		t.Fatalf("Bits(%v, %v): %v", lengths, counts, err)
	}
	return n
}

// countsFor are counts of which most are covered by lengths, up to the greatest ones.
func countsFor(lengths []int) [][]int {
	chance := rand.New(rand.NewSource(int64(len(lengths))))
	list := [][]int{nil, {0}, {1}, {0, 7}, {5, 1, 0}, samples.Full(256, 0), samples.Full(256, 1), samples.Full(256, api.MaxCount), samples.Behind(samples.Full(255, 0), api.MaxCount)}
	for i := range 8 {
		l := make([]int, min(256, len(lengths)+i%3))
		for symbol := range l {
			if symbol < len(lengths) && lengths[symbol] > 0 && chance.Intn(5) > 0 {
				l[symbol] = chance.Intn(api.MaxCount + 1)
			}
		}
		if i == 7 {
			l[chance.Intn(len(l))]++
		}
		list = append(list, l[:len(l)-i%2])
	}
	return list
}

// wrongCounts are counts that are not right.
func wrongCounts() [][]int {
	return [][]int{
		{-1}, {math.MinInt}, {1, -1}, {0, 0, 0, 0, -1}, {api.MaxCount + 1}, {1, api.MaxCount + 1}, {math.MaxInt, math.MaxInt, 2}, samples.Behind(samples.Full(255, 0), -1),
		samples.Full(257, 0), samples.Full(257, 1), samples.Full(257, -1), samples.Full(1000, 0),
	}
}
