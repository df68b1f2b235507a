package fse_test

import (
	"math"
	"math/rand"
	"slices"
	"strings"
	"testing"

	"cheesepress/api"
	"cheesepress/decode"
	"cheesepress/digits"
	"cheesepress/encode"
	"cheesepress/fse"
	"cheesepress/samples"
	"cheesepress/spread"
)

// chapter are d and e of the chapter's examples.
func chapter() (d, e api.Dist) {
	return samples.Of(5, 16, 16), samples.Of(5, -1, 31)
}

// small are distributions that are right with a Log of at most 6, and some with greater ones.
func small() []api.Dist {
	great := 0
	return slices.DeleteFunc(samples.Right(), func(d api.Dist) bool {
		if d.Log > 6 {
			great++
		}
		return d.Log > 6 && great%20 > 0
	})
}

// occurring is how many symbols of a distribution have a probability that is not 0.
func occurring(d api.Dist) int {
	n := 0
	for _, prob := range d.Probs {
		if prob != 0 {
			n++
		}
	}
	return n
}

// chanceList are n symbols of a distribution that have cells: rare ones, too.
func chanceList(d api.Dist, n int) []int {
	chance := rand.New(rand.NewSource(int64(n)))
	cells, _ := spread.Of(d)
	l := make([]int, n)
	for i := range l {
		l[i] = cells[chance.Intn(len(cells))]
		if chance.Intn(3) == 0 {
			l[i] = cells[len(cells)-1-chance.Intn(2)]
		}
	}
	return l
}

// modelWrite is the stream of a list with one state, or with two: each has its own symbols, and its steps are written where they come in the list, from its end.
func modelWrite(t *testing.T, d api.Dist, l []int, states int) string {
	t.Helper()
	table, err := encode.Of(d)
	if err != api.OK {
		t.Fatalf("Of(%v): %v", d, err)
	}
	bits := ""
	state := map[int]int{}
	for i := len(l) - 1; i >= 0; i-- {
		from, later := state[i%states]
		if !later {
			state[i%states], _ = encode.First(table, l[i])
			continue
		}
		next, n, value, err := encode.Put(table, from, l[i])
		if err != api.OK {
			t.Fatalf("Put(Of(%v), %d, %d): %v", d, from, l[i], err)
		}
		bits += digits.Of(value, n)
		state[i%states] = next
	}
	for i := states - 1; i >= 0; i-- {
		bits += digits.Of(state[i], d.Log)
	}
	return digits.Pack(bits + "1")
}

// rest are the bits of a stream as characters, without its padding; what is read first stands last.
type rest string

func restOf(s string) rest {
	all := digits.Text(s)
	return rest(all[:strings.LastIndexByte(all, '1')])
}

// take reads n bits, which are there.
func (r *rest) take(n int) int {
	at := len(*r) - n
	value := digits.Number(string((*r)[at:]))
	*r = (*r)[:at]
	return value
}

// model is a decode table with its Log.
type model struct {
	cells []api.Cell
	log   int
}

func modelOf(d api.Dist) model {
	cells, _ := decode.Of(d)
	return model{cells: cells, log: d.Log}
}

// read reads n symbols with one state.
func (m model) read(s string, n int) ([]int, api.Errno) {
	bits := restOf(s)
	if len(bits) < m.log {
		return nil, api.ErrStream
	}
	cell := m.cells[bits.take(m.log)]
	l := []int{cell.Symbol}
	for len(l) < n {
		if len(bits) < cell.Bits {
			return nil, api.ErrStream
		}
		cell = m.cells[cell.Base+bits.take(cell.Bits)]
		l = append(l, cell.Symbol)
	}
	if len(bits) > 0 {
		return nil, api.ErrStream
	}
	return l, api.OK
}

// readTwo reads symbols with two states.
func (m model) readTwo(s string) ([]int, api.Errno) {
	bits := restOf(s)
	if len(bits) < 2*m.log {
		return nil, api.ErrTree
	}
	this := m.cells[bits.take(m.log)]
	other := m.cells[bits.take(m.log)]
	var l []int
	for len(l) <= 255 {
		l = append(l, this.Symbol)
		if len(bits) < this.Bits {
			l = append(l, other.Symbol)
			break
		}
		this, other = other, m.cells[this.Base+bits.take(this.Bits)]
	}
	if len(l) > 255 || len(bits) > 0 {
		return nil, api.ErrTree
	}
	return l, api.OK
}

// chanceStreams are backward streams that look like chance.
func chanceStreams(n int) []string {
	chance := rand.New(rand.NewSource(int64(n)))
	list := make([]string, n)
	for i := range list {
		b := make([]byte, 1+chance.Intn(12))
		chance.Read(b)
		b[len(b)-1] |= 1
		list[i] = string(b)
	}
	return list
}

// written is the stream of a list with one state, where there must be one.
func written(t *testing.T, d api.Dist, l []int) string {
	t.Helper()
	s, err := fse.Write(d, l)
	if err != api.OK {
		t.Fatalf("Write(%v, %v): %v", d, l, err)
	}
	return s
}

// writtenTwo is the stream of a list with two states, where there must be one.
func writtenTwo(t *testing.T, d api.Dist, l []int) string {
	t.Helper()
	s, err := fse.WriteTwo(d, l)
	if err != api.OK {
		t.Fatalf("WriteTwo(%v, %v): %v", d, l, err)
	}
	return s
}

// cost is the cost of a list, where there must be one.
func cost(t *testing.T, d api.Dist, l []int) int {
	t.Helper()
	n, err := fse.Cost(d, l)
	if err != api.OK {
		t.Fatalf("Cost(%v, %v): %v", d, l, err)
	}
	return n
}

// noSymbols are numbers of no symbol that occurs in the distribution 16 0 15 -1.
func noSymbols() []int {
	return []int{math.MinInt, -256, -1, 1, 4, 5, 255, 256, math.MaxInt}
}

// noStreams are strings that are no backward streams, each with its error.
func noStreams() map[string]api.Errno {
	return map[string]api.Errno{
		"": api.ErrStream, "\x00": api.ErrStream, "\x01\x00": api.ErrStream, "\xff\xff\xff\x00": api.ErrStream,
		strings.Repeat("\x01", api.MaxInput+1): api.ErrLong,
	}
}
