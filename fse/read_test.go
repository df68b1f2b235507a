package fse_test

import (
	"math"
	"slices"
	"strings"
	"testing"

	"cheesepress/api"
	"cheesepress/digits"
	"cheesepress/fse"
	"cheesepress/samples"
)

// P12.2, P12.3: Read and ReadTwo of streams that look like chance.
func TestReadChance(t *testing.T) {
	one, two := 0, 0
	for _, d := range small() {
		m := modelOf(d)
		for _, s := range chanceStreams(25) {
			for n := 1; n <= 10; n++ {
				want, e := m.read(s, n)
				if e == api.OK {
					one++
				}
				if l, err := fse.Read(d, s, n); !slices.Equal(l, want) || err != e {
					t.Errorf("Read(%v, %x, %d) = %v, %v, not %v, %v", d, s, n, l, err, want, e)
				}
			}
			want, e := m.readTwo(s)
			if e == api.OK {
				two++
			}
			if l, err := fse.ReadTwo(d, s); !slices.Equal(l, want) || err != e {
				t.Errorf("ReadTwo(%v, %x) = %v, %v, not %v, %v", d, s, l, err, want, e)
			}
		}
	}
	if one < 200 || two < 200 {
		t.Errorf("only %d streams were read with one state, and %d with two", one, two)
	}
}

// P12.2, P12.3, P1: what is wrong with a distribution comes first, whatever the stream and n are.
func TestReadWrongDist(t *testing.T) {
	d, _ := chapter()
	streams := noStreams()
	streams[written(t, d, []int{0, 1})] = api.OK
	for s := range streams {
		for _, c := range samples.Wrong() {
			for _, n := range []int{math.MinInt, 0, 1, 2, 100001} {
				if l, err := fse.Read(c.Dist, s, n); l != nil || err != c.Err {
					t.Errorf("Read(%v, %d bytes, %d) = %v, %v, not %v", c.Dist, len(s), n, l, err, c.Err)
				}
			}
			if l, err := fse.ReadTwo(c.Dist, s); l != nil || err != c.Err {
				t.Errorf("ReadTwo(%v, %d bytes) = %v, %v, not %v", c.Dist, len(s), l, err, c.Err)
			}
		}
	}
}

// P12.2, P12.3: the errors of n, then what is no backward stream, then one that has more or fewer symbols.
func TestReadErrors(t *testing.T) {
	d, _ := chapter()
	streams := noStreams()
	streams[written(t, d, []int{0, 1})] = api.ErrStream
	for s, e := range streams {
		for n, want := range map[int]api.Errno{
			math.MinInt: api.ErrShort, -1: api.ErrShort, 0: api.ErrShort, 100001: api.ErrLong, math.MaxInt: api.ErrLong,
			1: e, 3: e, 99999: e, 100000: e,
		} {
			if l, err := fse.Read(d, s, n); l != nil || err != want {
				t.Errorf("Read(%v, %d bytes, %d) = %v, %v, not %v", d, len(s), n, l, err, want)
			}
		}
	}
	for s, e := range noStreams() {
		if l, err := fse.ReadTwo(d, s); l != nil || err != e {
			t.Errorf("ReadTwo(%v, %d bytes) = %v, %v, not %v", d, len(s), l, err, e)
		}
	}
}

// P12.2, P12.3: bits that are missing for the first states, and just enough of them.
func TestFirstStates(t *testing.T) {
	for _, d := range small() {
		for n := range 2*d.Log + 1 {
			s := digits.Pack(strings.Repeat("0", n) + "1")
			l, err := fse.Read(d, s, 1)
			if n == d.Log && (len(l) != 1 || err != api.OK) || n != d.Log && (l != nil || err != api.ErrStream) {
				t.Errorf("Read(%v, %d bits 0, 1) = %v, %v", d, n, l, err)
			}
			if l, err := fse.ReadTwo(d, s); n < 2*d.Log && (l != nil || err != api.ErrTree) {
				t.Errorf("ReadTwo(%v, %d bits 0) = %v, %v", d, n, l, err)
			}
		}
	}
}

// P12.3: 255 symbols are read, and 256 are too many.
func TestMostSymbols(t *testing.T) {
	for _, d := range small() {
		if occurring(d) < 2 {
			continue
		}
		for n := 252; n <= 260; n++ {
			l := chanceList(d, n)
			got, err := fse.ReadTwo(d, writtenTwo(t, d, l))
			if n <= 255 && (!slices.Equal(got, l) || err != api.OK) || n > 255 && (got != nil || err != api.ErrTree) {
				t.Errorf("ReadTwo(%v, %d symbols) = %d symbols, %v", d, n, len(got), err)
			}
		}
	}
}

// P12.2, P12.3: steps without bits have no end of their own: n symbols are read with one state, and too many with two.
func TestStepsWithoutBits(t *testing.T) {
	for log := 5; log <= 12; log++ {
		d := samples.Of(log, 0, 1<<log)
		l := slices.Repeat([]int{1}, 300)
		s := written(t, d, l)
		if len(restOf(s)) != log {
			t.Errorf("Write(%v, 300 symbols) = %x", d, s)
		}
		for _, n := range []int{1, 2, 300, 100000} {
			if got, err := fse.Read(d, s, n); !slices.Equal(got, slices.Repeat([]int{1}, n)) || err != api.OK {
				t.Errorf("Read(%v, %x, %d): %d symbols, %v", d, s, n, len(got), err)
			}
		}
		if got, err := fse.ReadTwo(d, writtenTwo(t, d, l[:2])); got != nil || err != api.ErrTree {
			t.Errorf("ReadTwo(%v, 2 symbols): %d symbols, %v", d, len(got), err)
		}
	}
}

// The longest lists are written and read, with one state.
func TestLongest(t *testing.T) {
	for _, d := range []api.Dist{samples.Of(12, samples.Full(256, 16)...), samples.Of(12, 4095, -1), samples.Of(5, 16, 16)} {
		l := chanceList(d, 100000)
		s := written(t, d, l)
		if got, err := fse.Read(d, s, len(l)); !slices.Equal(got, l) || err != api.OK {
			t.Errorf("Log %d: %d symbols are read, %v", d.Log, len(got), err)
		}
		if n := cost(t, d, l); n != len(restOf(s)) {
			t.Errorf("Log %d: the cost is %d, and there are %d bytes", d.Log, n, len(s))
		}
		if two := writtenTwo(t, d, l); len(two) < 100 {
			t.Errorf("Log %d: with two states there are %d bytes", d.Log, len(two))
		}
	}
}

// The chapter's examples.
func TestExamples(t *testing.T) {
	d, e := chapter()
	l := []int{0, 1, 1, 0}
	s := written(t, d, l)
	if got, err := fse.Read(d, s, 4); !slices.Equal(got, l) || err != api.OK {
		t.Errorf("Read(d, Write(d, 0 1 1 0), 4) = %v, %v", got, err)
	}
	if got, err := fse.ReadTwo(d, writtenTwo(t, d, l)); !slices.Equal(got, l) || err != api.OK {
		t.Errorf("ReadTwo(d, WriteTwo(d, 0 1 1 0)) = %v, %v", got, err)
	}
	if one, four, rare := cost(t, d, l[:1]), cost(t, d, l), cost(t, e, l[:1]); one != 5 || four != 8 || rare != 5 {
		t.Errorf("Cost(d, 0), Cost(d, 0 1 1 0), Cost(e, 0) = %d, %d, %d", one, four, rare)
	}
	refused(t, d, nil, api.ErrShort, api.ErrShort)
	refused(t, d, []int{2}, api.ErrMissing, api.ErrShort)
	refused(t, d, []int{-1}, api.ErrMissing, api.ErrShort)
	for _, c := range []struct {
		s   string
		n   int
		err api.Errno
	}{{s, 3, api.ErrStream}, {s, 5, api.ErrStream}, {"", 1, api.ErrStream}, {s, 0, api.ErrShort}} {
		if got, err := fse.Read(d, c.s, c.n); got != nil || err != c.err {
			t.Errorf("Read(d, %x, %d) = %v, %v, not %v", c.s, c.n, got, err, c.err)
		}
	}
	for _, c := range []struct {
		l    []int
		want bool
	}{{[]int{0, 1, 0}, true}, {[]int{2}, false}} {
		if covers, err := fse.Covers(e, c.l); covers != c.want || err != api.OK {
			t.Errorf("Covers(e, %v) = %v, %v", c.l, covers, err)
		}
	}
}
