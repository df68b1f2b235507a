package fse

import (
	"iter"

	"cheesepress/api"
	"cheesepress/back"
	"cheesepress/decode"
)

// stream is a backward stream in work: its reader, the cells of its table, and its states, so many of which take turns.
type stream struct {
	api.BackReader
	cells  []api.Cell
	states [double]int
	turns  int
}

// open returns a stream of which nothing was read.
func open(d api.Dist, s string, turns int) (*stream, api.Errno) {
	cells, err := decode.Of(d)
	if err != api.OK {
		return nil, err
	}
	r, err := back.Read(s)
	if err != api.OK {
		return nil, err
	}
	return &stream{BackReader: r, cells: cells, turns: turns}, api.OK
}

// take reads n bits, which are left.
func (s *stream) take(n int) int {
	next, value, _ := back.Take(s.BackReader, n)
	s.BackReader = next
	return int(value)
}

// begin reads the first states, with so many bits each. It tells whether there are as many bits.
func (s *stream) begin(bits int) bool {
	if s.Left < s.turns*bits {
		return false
	}
	for turn := range s.turns {
		s.states[turn] = s.take(bits)
	}
	return true
}

// cell returns the cell of the state whose turn it is at the symbol number i.
func (s *stream) cell(i int) api.Cell {
	return s.cells[s.states[i%s.turns]]
}

// symbols goes through the symbols, and reads the bits behind each one before the next one. When bits are missing, the symbols of the other states are the last ones.
func (s *stream) symbols() iter.Seq[int] {
	return func(yield func(symbol int) bool) {
		i := 0
		for ; ; i++ {
			cell := s.cell(i)
			if !yield(cell.Symbol) {
				return
			}
			if s.Left < cell.Bits {
				break
			}
			s.states[i%s.turns] = cell.Base + s.take(cell.Bits)
		}
		for other := 1; other < s.turns; other++ {
			if !yield(s.cell(i + other).Symbol) {
				return
			}
		}
	}
}

// upTo returns the symbols, but at most n of them.
func (s *stream) upTo(n int) []int {
	var l []int
	for symbol := range s.symbols() {
		l = append(l, symbol)
		if len(l) == n {
			break
		}
	}
	return l
}
