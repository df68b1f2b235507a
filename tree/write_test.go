package tree_test

import (
	"slices"
	"testing"

	"cheesepress/api"
	"cheesepress/samples"
	"cheesepress/tree"
	"cheesepress/weight"
)

// P15.1: Write, Possible and Size, against both forms; the lengths stay as they are.
func TestWrite(t *testing.T) {
	var directAlone, fseAlone, none, directLess, same, fseLess int
	for _, lengths := range allLengths() {
		before := slices.Clone(lengths)
		listed, _ := weight.Listed(lengths)
		a, direct := modelDirect(listed)
		b, byFse := modelFse(t, listed)
		want, wantErr := a, api.OK
		switch {
		case !direct && !byFse:
			want, wantErr = "", api.ErrMissing
			none++
		case !byFse:
			directAlone++
		case !direct:
			want = b
			fseAlone++
		case len(a) == len(b):
			same++
		case len(b) < len(a):
			want = b
			fseLess++
		default:
			directLess++
		}
		if s, err := tree.Write(lengths); s != want || err != wantErr {
			t.Errorf("Write(%v) = %x, %v, not %x, %v", lengths, s, err, want, wantErr)
		}
		if n, err := tree.Size(lengths); n != len(want) || err != wantErr {
			t.Errorf("Size(%v) = %d, %v, not %d, %v", lengths, n, err, len(want), wantErr)
		}
		if d, f, err := tree.Possible(lengths); d != direct || f != byFse || err != api.OK {
			t.Errorf("Possible(%v) = %v, %v, %v, not %v, %v", lengths, d, f, err, direct, byFse)
		}
		if !slices.Equal(lengths, before) {
			t.Errorf("the lengths %v have become %v", before, lengths)
		}
	}
	if min(directAlone, fseAlone, none, directLess, same, fseLess) < 2 {
		t.Errorf("%d direct alone, %d FSE alone, %d none; both: %d direct less, %d same, %d FSE less", directAlone, fseAlone, none, directLess, same, fseLess)
	}
}

// P15.1, P1: what is wrong with lengths comes first.
func TestWrongLengths(t *testing.T) {
	for _, lengths := range wrongLengths() {
		want := weight.Check(lengths)
		if want == api.OK {
			t.Errorf("%v is right", lengths)
		}
		if s, err := tree.Write(lengths); s != "" || err != want {
			t.Errorf("Write(%v) = %x, %v, not %v", lengths, s, err, want)
		}
		if n, err := tree.Size(lengths); n != 0 || err != want {
			t.Errorf("Size(%v) = %d, %v, not %v", lengths, n, err, want)
		}
		if d, f, err := tree.Possible(lengths); d || f || err != want {
			t.Errorf("Possible(%v) = %v, %v, %v, not %v", lengths, d, f, err, want)
		}
	}
}

// P15.2: the FSE form, and weights that do not have it.
func TestFse(t *testing.T) {
	missing := 0
	for _, listed := range allListed() {
		before := slices.Clone(listed)
		want, possible := modelFse(t, listed)
		wantErr := api.OK
		if !possible {
			want, wantErr = "", api.ErrMissing
			missing++
		}
		if s, err := tree.Fse(listed); s != want || err != wantErr {
			t.Errorf("Fse(%v) = %x, %v, not %x, %v", listed, s, err, want, wantErr)
		}
		if !slices.Equal(listed, before) {
			t.Errorf("the weights %v have become %v", before, listed)
		}
	}
	if missing < 5 {
		t.Errorf("just %d lists have no FSE form", missing)
	}
}

// P15.2, P1: weights that are not right.
func TestFseWrong(t *testing.T) {
	for _, listed := range [][]int{nil, {}, {0}, {0, 0}, {12}, {-1}, {1, -1}, {1, 12}, {1, 1, 1, 2}, {3, 1}, {11, 11}, samples.Full(256, 1), samples.Full(256, 12), samples.Full(255, 5), samples.Behind(samples.Full(255, 1), 2)} {
		want := weight.Right(listed)
		if s, err := tree.Fse(listed); s != "" || err != want || want == api.OK {
			t.Errorf("Fse(%v) = %x, %v, not %v", listed, s, err, want)
		}
	}
}

// The chapter's examples.
func TestExamples(t *testing.T) {
	for s, lengths := range map[string][]int{"\x80\x10": {1, 1}, "\x81\x01": {0, 1, 1}, "\x81\x11": {2, 2, 1}} {
		if got := written(t, lengths); got != s {
			t.Errorf("Write(%v) = %x, not %x", lengths, got, s)
		}
	}
	if l, _, f := tree.Lengths("\x80\x10", 0); !slices.Equal(l, []int{1, 1}) || f != (api.Fault{}) {
		t.Errorf("Lengths(80 10) = %v, %v", l, f)
	}
	if _, next, f := tree.Lengths("\x81\x01\xff", 0); next != 2 || f != (api.Fault{}) {
		t.Errorf("Lengths(81 01 ff): %d, %v", next, f)
	}
	for _, c := range []struct {
		lengths     []int
		direct, fse bool
	}{{samples.Behind(samples.Full(200, 0), 1, 1), false, true}, {samples.Full(256, 8), false, false}, {[]int{1, 1}, true, false}} {
		if direct, fse, err := tree.Possible(c.lengths); direct != c.direct || fse != c.fse || err != api.OK {
			t.Errorf("Possible(%v) = %v, %v, %v", c.lengths, direct, fse, err)
		}
	}
	if s, err := tree.Write(samples.Full(256, 8)); s != "" || err != api.ErrMissing {
		t.Errorf("Write(256 times 8) = %x, %v", s, err)
	}
	readRefused(t, "", 0, api.Fault{Err: api.ErrShort})
	readRefused(t, "\x81", 0, api.Fault{Err: api.ErrShort, At: 1})
	readRefused(t, "\x05\x00", 0, api.Fault{Err: api.ErrShort, At: 2})
	readRefused(t, "\x81\x00", 0, api.Fault{Err: api.ErrTree})
	for _, listed := range [][]int{{1, 1}, {1}} {
		if s, err := tree.Fse(listed); s != "" || err != api.ErrMissing {
			t.Errorf("Fse(%v) = %x, %v", listed, s, err)
		}
	}
}
