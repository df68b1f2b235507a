package fse

import (
	"slices"
	"strings"

	"cheesepress/api"
	"cheesepress/back"
	"cheesepress/encode"
	"cheesepress/steps"
)

// writer writes a stream. Its numbers fit, and they are not many, so they are never refused.
type writer struct {
	api.BackWriter
	whole strings.Builder
}

// put writes a number. Whole bytes are taken out at once, as each number that is written copies those that are there.
func (w *writer) put(bits, value int) {
	w.BackWriter, _ = back.Put(w.BackWriter, bits, uint64(value))
	w.whole.WriteString(w.S)
	w.S = ""
}

// done ends the stream.
func (w *writer) done() string {
	end, _ := back.Done(w.BackWriter)
	return w.whole.String() + end
}

// write returns the stream of a list with so many states, which take turns.
func write(d api.Dist, l []int, turns int) (string, api.Errno) {
	if err := refuse(d, l, turns); err != api.OK {
		return "", err
	}
	t, _ := encode.Of(d)
	table := steps.Table{EncodeTable: t}
	var w writer
	var states [double]int
	for i, symbol := range slices.Backward(l) {
		turn := i % turns
		if i >= len(l)-turns {
			states[turn] = table.First(symbol)
			continue
		}
		next, bits, value := table.Step(states[turn], symbol)
		w.put(bits, value)
		states[turn] = next
	}
	for _, state := range slices.Backward(states[:turns]) {
		w.put(d.Log, state)
	}
	return w.done(), api.OK
}
