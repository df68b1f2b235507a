package tree_test

import (
	"math"
	"math/rand"
	"slices"
	"strings"
	"testing"

	"cheesepress/api"
	"cheesepress/dist"
	"cheesepress/samples"
	"cheesepress/tree"
	"cheesepress/weight"
)

// P15.3, P1: offsets that are none, and no byte.
func TestReadRange(t *testing.T) {
	for _, s := range []string{"", "\x80\x10", "\x00", "\x05\x00", "\x81\x01\xff"} {
		for _, at := range []int{math.MinInt, -2, -1, len(s) + 1, len(s) + 2, math.MaxInt} {
			readRefused(t, s, at, api.Fault{Err: api.ErrRange})
		}
		readRefused(t, s, len(s), api.Fault{Err: api.ErrShort, At: len(s)})
	}
}

// P15.3: the direct form, also with offsets: what is read, and its faults.
func TestReadDirect(t *testing.T) {
	for _, at := range []int{0, 1, 4} {
		before := "\xff\x80\x10\x01"[:at]
		readRefused(t, before+"\x81", at, api.Fault{Err: api.ErrShort, At: at + 1})
		readRefused(t, before+"\x84\x11\x11", at, api.Fault{Err: api.ErrShort, At: at + 3})
		readRefused(t, before+"\x81\x00", at, api.Fault{Err: api.ErrTree, At: at})
		readRefused(t, before+"\x81\xc1", at, api.Fault{Err: api.ErrTree, At: at})
		if l, next, f := tree.Read(before+"\x82\x32\x19\x99", at); !slices.Equal(l, []int{3, 2, 1}) || next != at+3 || f != (api.Fault{}) {
			t.Errorf("Read(82 32 19 99) at %d = %v, %d, %v", at, l, next, f)
		}
	}
}

// P15.3: a description that has fewer bytes than its first one says, whatever they are.
func TestReadShort(t *testing.T) {
	for h := 1; h < 128; h++ {
		for _, n := range []int{0, 1, h / 2, h - 1} {
			for _, fill := range []string{"\x00", "\xff", "\x30"} {
				s := "ab" + string([]byte{byte(h)}) + strings.Repeat(fill, min(n, h-1))
				readRefused(t, s, 2, api.Fault{Err: api.ErrShort, At: len(s)})
			}
		}
	}
}

// P15.3: faults of the distribution: it is cut off by the first byte, is too accurate, or has too many symbols.
func TestReadDist(t *testing.T) {
	for _, at := range []int{0, 3} {
		before := "\x80\x10\x05"[:at]
		wrong := func(s string, err api.Errno) {
			t.Helper()
			readRefused(t, before+led(s), at, api.Fault{Err: err, At: at + 1})
			readRefused(t, before+led(s)+"\x0f\xff\xff", at, api.Fault{Err: err, At: at + 1})
		}
		wrong("", api.ErrTable)
		whole := content(t, samples.Of(6, 20, 20, 4, 20), []int{0, 1, 2, 3, 3, 1})
		wrong(whole[:1], api.ErrTable)
		wrong(whole[:2], api.ErrTable)
		for log := 7; log <= 12; log++ {
			d := samples.Of(log, 1<<(log-1), 1<<(log-1))
			wrong(content(t, d, []int{1, 0, 1}), api.ErrAccuracy)
			wrong(content(t, d, []int{1, 0, 1})[:1], api.ErrAccuracy)
		}
		wrong(content(t, samples.Of(6, samples.Behind(samples.Full(12, 4), 16)...), []int{1, 12}), api.ErrTable)
		wrong(content(t, samples.Of(5, samples.Behind(samples.Full(12, 0), 32)...), []int{12, 12}), api.ErrTable)
		// All bytes are there, but not among those that the first byte counts.
		readRefused(t, before+"\x01"+whole, at, api.Fault{Err: api.ErrTable, At: at + 1})
	}
}

// P15.3: faults of the stream, where it begins.
func TestReadStream(t *testing.T) {
	d := samples.Of(6, 0, 32, 16, 16)
	head, _ := dist.Write(d)
	for _, at := range []int{0, 3} {
		before := "\x80\x10\x05"[:at]
		for s, err := range map[string]api.Errno{"": api.ErrStream, "\x00": api.ErrStream, "\xff\x00": api.ErrStream, "\x01": api.ErrTree, "\xff": api.ErrTree, "\xff\x0f": api.ErrTree} {
			readRefused(t, before+led(head+s)+"\x01", at, api.Fault{Err: err, At: at + 1 + len(head)})
		}
		// One symbol alone has no end, and with two symbols 256 are too many.
		one := content(t, samples.Of(5, 0, 32), []int{1, 1})
		oneHead, _ := dist.Write(samples.Of(5, 0, 32))
		readRefused(t, before+led(one), at, api.Fault{Err: api.ErrTree, At: at + 1 + len(oneHead)})
		rare := samples.Of(6, -1, 63)
		rareHead, _ := dist.Write(rare)
		readRefused(t, before+led(content(t, rare, samples.Behind(samples.Full(255, 1), 0))), at, api.Fault{Err: api.ErrTree, At: at + 1 + len(rareHead)})
	}
}

// P15.3: weights that can be read, but are not right.
func TestReadWrongWeights(t *testing.T) {
	d := samples.Of(6, 16, 32, 8, 4, 1, 1, 1, -1)
	for _, weights := range [][]int{{0, 0}, {1, 1, 1, 2}, {1, 1, 1, 1, 1}, {3, 1}, {7, 0, 2, 0}, samples.Behind(samples.Full(30, 7), 1)} {
		if weight.Right(weights) == api.OK {
			t.Errorf("%v is right", weights)
		}
		readRefused(t, led(content(t, d, weights)), 0, api.Fault{Err: api.ErrTree})
		readRefused(t, "abc"+led(content(t, d, weights))+"d", 3, api.Fault{Err: api.ErrTree, At: 3})
	}
	// The weight 12 has no symbol, so all others are read.
	most := samples.Of(6, samples.Behind(samples.Full(11, 4), 20)...)
	list := []int{11, 10, 9, 8, 7, 6, 5, 4, 3, 2, 1, 0}
	if l, next, f := tree.Read(led(content(t, most, list)), 0); !slices.Equal(l, list) || next != 1+len(content(t, most, list)) || f != (api.Fault{}) {
		t.Errorf("Read of %v = %v, %d, %v", list, l, next, f)
	}
}

// P15.3: strings that look like chance, and descriptions with changed bits, against the words of the chapter.
func TestReadChance(t *testing.T) {
	chance := rand.New(rand.NewSource(16))
	list := spoiltDescriptions(t)
	for i := range 20000 {
		b := make([]byte, chance.Intn(12))
		chance.Read(b)
		if len(b) > 1 {
			b[0] = byte(chance.Intn(3*len(b)/2) + i%2*128)
			b[1] = b[1]&0xf0 | byte(chance.Intn(3))
		}
		list = append(list, string(b))
	}
	faults := map[api.Errno]int{}
	for i, s := range list {
		at := i % 2
		s = "\x82"[:at] + s
		want, wantNext, wantFault := modelRead(s, at)
		faults[wantFault.Err]++
		if wantFault.Err != api.OK {
			readRefused(t, s, at, wantFault)
			continue
		}
		if l, next, f := tree.Read(s, at); !slices.Equal(l, want) || next != wantNext || f != (api.Fault{}) {
			t.Errorf("Read(%x, %d) = %v, %d, %v, not %v, %d", s, at, l, next, f, want, wantNext)
		}
		wantLengths, _ := weight.Lengths(want)
		if l, next, f := tree.Lengths(s, at); !slices.Equal(l, wantLengths) || next != wantNext || f != (api.Fault{}) {
			t.Errorf("Lengths(%x, %d) = %v, %d, %v, not %v, %d", s, at, l, next, f, wantLengths, wantNext)
		}
	}
	for _, err := range []api.Errno{api.OK, api.ErrShort, api.ErrTree, api.ErrTable, api.ErrAccuracy, api.ErrStream} {
		if faults[err] < 100 {
			t.Errorf("just %d descriptions have the error %v", faults[err], err)
		}
	}
}

// What is changed in a result does not show in another one.
func TestResultsShareNothing(t *testing.T) {
	for name, f := range map[string]func(string, int) ([]int, int, api.Fault){"Read": tree.Read, "Lengths": tree.Lengths} {
		one, _, _ := f("\x82\x32\x10", 0)
		other, _, _ := f("\x82\x32\x10", 0)
		one[0] = 1000
		if other[0] == 1000 {
			t.Errorf("%s: %v and %v share memory", name, one, other)
		}
	}
}
