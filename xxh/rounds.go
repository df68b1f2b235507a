package xxh

import "cheesepress/ints"

// The numbers that all products and sums are made of.
const (
	primeA = 11400714785074694791
	primeB = 14029467366897019727
	primeC = 1609587929392839161
	primeD = 9650029242287828579
	primeE = 2870177450012600261
)

const (
	numberBits = 64
	longSize   = 8 // how many bytes a lane takes at once
	shortSize  = 4
	laneCount  = 4
	blockSize  = laneCount * longSize // how many bytes all lanes take at once
)

// turn rotates n to the left.
func turn(n uint64, bits int) uint64 {
	return n<<bits | n>>(numberBits-bits)
}

func round(a, x uint64) uint64 {
	return turn(a+x*primeB, 31) * primeA
}

// first returns the lanes before any block.
func first(seed uint64) [laneCount]uint64 {
	return [laneCount]uint64{seed + primeA + primeB, seed + primeB, seed, seed - primeA}
}

// mixed returns the lanes behind a block.
func mixed(lanes [laneCount]uint64, block string) [laneCount]uint64 {
	for i, lane := range lanes {
		lanes[i] = round(lane, number(block[longSize*i:], longSize))
	}
	return lanes
}

// merged returns the one number that is made of all lanes.
func merged(lanes [laneCount]uint64) uint64 {
	turns := [laneCount]int{1, 7, 12, 18}
	var n uint64
	for i, lane := range lanes {
		n += turn(lane, turns[i])
	}
	for _, lane := range lanes {
		n = (n^round(0, lane))*primeA + primeD
	}
	return n
}

// taken returns what n becomes by bytes that fill no block: long fields as long as there are any, a short one, and single bytes.
func taken(n uint64, bytes string) uint64 {
taking:
	for {
		switch {
		case len(bytes) >= longSize:
			n = turn(n^round(0, number(bytes, longSize)), 27)*primeA + primeD
			bytes = bytes[longSize:]
		case len(bytes) >= shortSize:
			n = turn(n^number(bytes, shortSize)*primeA, 23)*primeB + primeC
			bytes = bytes[shortSize:]
		case len(bytes) > 0:
			n = turn(n^number(bytes, 1)*primeE, 11) * primeA
			bytes = bytes[1:]
		default:
			break taking
		}
	}
	return n
}

// stir lets the high bits of n change its low ones.
func stir(n uint64) uint64 {
	n = (n ^ n>>33) * primeB
	n = (n ^ n>>29) * primeC
	return n ^ n>>32
}

// number returns the number of the first size bytes, which are there.
func number(bytes string, size int) uint64 {
	n, _, _ := ints.Read(bytes, 0, size)
	return n
}
