package xxh_test

import (
	"math/big"
	"math/rand"
	"strings"
	"testing"

	"cheesepress/api"
	"cheesepress/xxh"
)

// word is a number of 64 bits of which every sum and product is made exactly, and then cut.
type word struct {
	n *big.Int
}

func wordOf(n uint64) word {
	return word{new(big.Int).SetUint64(n)}
}

func cut(n *big.Int) word {
	return word{n.Mod(n, new(big.Int).Lsh(big.NewInt(1), 64))}
}

func (a word) plus(b word) word   { return cut(new(big.Int).Add(a.n, b.n)) }
func (a word) minus(b word) word  { return cut(new(big.Int).Sub(a.n, b.n)) }
func (a word) times(b word) word  { return cut(new(big.Int).Mul(a.n, b.n)) }
func (a word) xor(b word) word    { return word{new(big.Int).Xor(a.n, b.n)} }
func (a word) right(n uint) word  { return word{new(big.Int).Rsh(a.n, n)} }
func (a word) left(n uint) word   { return word{new(big.Int).Lsh(a.n, n)} }
func (a word) turned(n uint) word { return cut(a.left(n).n).plus(a.right(64 - n)) }

// fieldOf is the number of a little-endian field.
func fieldOf(s string) word {
	n := new(big.Int)
	for i := len(s) - 1; i >= 0; i-- {
		n.Lsh(n, 8).Add(n, big.NewInt(int64(s[i])))
	}
	return word{n}
}

// The five numbers of the chapter, written in hexadecimal.
func primes() (a, b, c, d, e word) {
	return wordOf(0x9e3779b185ebca87), wordOf(0xc2b2ae3d27d4eb4f), wordOf(0x165667b19e3779f9), wordOf(0x85ebca77c2b2ae63), wordOf(0x27d4eb2f165667c5)
}

func roundOf(a, x word) word {
	primeA, primeB, _, _, _ := primes()
	return a.plus(x.times(primeB)).turned(31).times(primeA)
}

// modelLanes are the lanes behind all whole blocks of s, and the rest.
func modelLanes(s string, seed word) ([4]word, string) {
	a, b, _, _, _ := primes()
	lanes := [4]word{seed.plus(a).plus(b), seed.plus(b), seed, seed.minus(a)}
	for len(s) >= 32 {
		for i := range 4 {
			lanes[i] = roundOf(lanes[i], fieldOf(s[8*i:8*i+8]))
		}
		s = s[32:]
	}
	return lanes, s
}

// modelSum is the checksum of s.
func modelSum(s string, seed uint64) uint64 {
	a, b, c, d, e := primes()
	lanes, rest := modelLanes(s, wordOf(seed))
	h := wordOf(seed).plus(e)
	if len(s) >= 32 {
		h = lanes[0].turned(1).plus(lanes[1].turned(7)).plus(lanes[2].turned(12)).plus(lanes[3].turned(18))
		for _, lane := range lanes {
			h = h.xor(roundOf(wordOf(0), lane)).times(a).plus(d)
		}
	}
	h = h.plus(wordOf(uint64(len(s))))
	for ; len(rest) >= 8; rest = rest[8:] {
		h = h.xor(roundOf(wordOf(0), fieldOf(rest[:8]))).turned(27).times(a).plus(d)
	}
	if len(rest) >= 4 {
		h = h.xor(fieldOf(rest[:4]).times(a)).turned(23).times(b).plus(c)
		rest = rest[4:]
	}
	for i := range len(rest) {
		h = h.xor(fieldOf(rest[i : i+1]).times(e)).turned(11).times(a)
	}
	h = h.xor(h.right(33)).times(b)
	h = h.xor(h.right(29)).times(c)
	return h.xor(h.right(32)).n.Uint64()
}

// modelState is the state behind s.
func modelState(s string, seed uint64) api.Hash {
	lanes, rest := modelLanes(s, wordOf(seed))
	h := api.Hash{Total: len(s), Tail: rest, Seed: seed}
	for i, lane := range lanes {
		h.Acc[i] = lane.n.Uint64()
	}
	return h
}

// noise is a string of n bytes that looks like chance, the same one in every run.
func noise(n int) string {
	b := make([]byte, n)
	rand.New(rand.NewSource(int64(n))).Read(b)
	return string(b)
}

// texts are strings of all lengths up to several blocks, and others.
func texts() []string {
	list := []string{"", "a", "abc", strings.Repeat("\x00", 64), strings.Repeat("\xff", 95), noise(1000), noise(4096)}
	for n := range 140 {
		list = append(list, noise(n))
	}
	return list
}

func seeds() []uint64 {
	return []uint64{0, 1, 5, 20141025, 1<<31 + 1, 1 << 63, 0xfedcba9876543210, 1<<64 - 1}
}

// add adds bytes where that must succeed.
func add(t *testing.T, h api.Hash, s string) api.Hash {
	t.Helper()
	next, err := xxh.Add(h, s)
	if err != api.OK {
		t.Fatalf("Add(%v, %d bytes): %v", h, len(s), err)
	}
	return next
}
