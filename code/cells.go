package code

import (
	"cmp"
	"iter"
	"slices"

	"cheesepress/api"
)

// owner is a symbol that has a code, and how many bits this has.
type owner struct {
	symbol int
	bits   int
}

// byTurn compares symbols by when they take their cells: those with longer codes first, of these the least one.
func byTurn(a, b owner) int {
	return cmp.Or(cmp.Compare(b.bits, a.bits), cmp.Compare(a.symbol, b.symbol))
}

// owners returns the symbols that have codes, in the order in which they take their cells.
func owners(lengths []int) []owner {
	var list []owner
	for symbol, bits := range lengths {
		if bits > 0 {
			list = append(list, owner{symbol: symbol, bits: bits})
		}
	}
	slices.SortFunc(list, byTurn)
	return list
}

// mostOf returns the greatest length.
func mostOf(lengths []int) int {
	var there [api.MaxHuf + 1]bool
	for _, bits := range lengths {
		there[bits] = true
	}
	most := api.MaxHuf
	for !there[most] {
		most--
	}
	return most
}

// cells goes through the cells of right lengths, and the symbols to which they belong.
func cells(lengths []int) iter.Seq2[int, owner] {
	return func(yield func(cell int, of owner) bool) {
		most := mostOf(lengths)
		cell := 0
	filling:
		for _, of := range owners(lengths) {
			for range 1 << (most - of.bits) {
				if !yield(cell, of) {
					break filling
				}
				cell++
			}
		}
	}
}
