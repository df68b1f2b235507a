package xxh

import (
	"strings"

	"cheesepress/api"
)

// state is a state of package api with methods, which its type has none of there.
type state struct {
	api.Hash
}

func begin(seed uint64) state {
	return state{api.Hash{Acc: first(seed), Seed: seed}}
}

func (h state) valid() bool {
	if h.Total < 0 || h.Total > api.MaxCount || len(h.Tail) != h.Total%blockSize {
		return false
	}
	return h.filled() || h.Acc == first(h.Seed)
}

// filled tells whether the lanes have taken a block.
func (h state) filled() bool {
	return h.Total >= blockSize
}

func (h state) sum() uint64 {
	n := h.Seed + primeE
	if h.filled() {
		n = merged(h.Acc)
	}
	return stir(taken(n+uint64(h.Total), h.Tail))
}

// taker is a state that takes the bytes which it was given.
type taker struct {
	state
	given string
}

// fits tells whether a state may have so many bytes. It asks for the room that is left, so no sum overflows.
func (t *taker) fits() bool {
	return len(t.given) <= api.MaxCount-t.Total
}

func (t *taker) take() {
	t.Total += len(t.given)
	for len(t.Tail)+len(t.given) >= blockSize {
		n := blockSize - len(t.Tail)
		t.Acc = mixed(t.Acc, t.Tail+t.given[:n])
		t.Tail, t.given = "", t.given[n:]
	}
	// A copy, so that a state does not keep a long string for its end.
	t.Tail += strings.Clone(t.given)
}
