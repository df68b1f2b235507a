// Package steps is no layer: it uses FSE encode tables that are known to be right. A layer that checks its table once takes its steps here, as each function of package encode checks the whole table again.
package steps

import (
	"cheesepress/api"
	"cheesepress/ints"
)

// Table is an encode table that is right.
type Table struct {
	api.EncodeTable
}

// Has tells whether a symbol has cells.
func (t Table) Has(symbol int) bool {
	return symbol >= 0 && symbol < len(t.States) && len(t.States[symbol]) > 0
}

// First returns the first state of a symbol that has cells.
func (t Table) First(symbol int) int {
	return t.States[symbol][0]
}

// Step goes from a state to a symbol that has cells: it returns the next state, and the value that a decoder reads with so many bits to come back.
func (t Table) Step(state, symbol int) (next, bits, value int) {
	cells := t.States[symbol]
	x := uint(state) + 1<<uint(t.Log)
	// With so many bits less, x has as many bits as the number of cells has. One bit more is needed if it is below it all the same.
	bits = t.Log - ints.High(len(cells))
	if x>>uint(bits) < uint(len(cells)) {
		bits--
	}
	number := int(x >> uint(bits))
	return cells[number-len(cells)], bits, int(x & (1<<uint(bits) - 1))
}
