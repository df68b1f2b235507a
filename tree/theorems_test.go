package tree_test

import (
	"slices"
	"testing"

	"cheesepress/api"
	"cheesepress/tree"
	"cheesepress/weight"
)

// described are lengths that have a description.
func described(t *testing.T) [][]int {
	t.Helper()
	list := slices.DeleteFunc(allLengths(), func(lengths []int) bool {
		_, err := tree.Write(lengths)
		return err == api.ErrMissing
	})
	if len(list) < 300 {
		t.Fatalf("just %d lengths have a description", len(list))
	}
	return list
}

// P15.4: lengths are read from their description, whatever stands behind it.
func TestWrittenIsRead(t *testing.T) {
	for _, lengths := range described(t) {
		s := written(t, lengths)
		listed, _ := weight.Listed(lengths)
		for _, around := range []string{"", "\x00", "\xff\xff", "abcdefgh"} {
			text, at := around+s+around, len(around)
			if l, next, f := tree.Lengths(text, at); !slices.Equal(l, lengths) || next != at+len(s) || f != (api.Fault{}) {
				t.Errorf("Lengths(Write(%v)) = %v, %d, %v", lengths, l, next, f)
			}
			if l, next, f := tree.Read(text, at); !slices.Equal(l, listed) || next != at+len(s) || f != (api.Fault{}) {
				t.Errorf("Read(Write(%v)) = %v, %d, %v", lengths, l, next, f)
			}
		}
	}
}

// P15.4, P15.2: weights are read from their FSE form, also those that have no lengths of their own.
func TestFseIsRead(t *testing.T) {
	for _, listed := range allListed() {
		s, err := tree.Fse(listed)
		if err == api.ErrMissing {
			continue
		}
		if l, next, f := tree.Read(s+"x", 0); !slices.Equal(l, listed) || next != len(s) || f != (api.Fault{}) {
			t.Errorf("Read(Fse(%v)) = %v, %d, %v", listed, l, next, f)
		}
	}
}

// P15.5: a description has from 2 to 128 bytes.
func TestSizes(t *testing.T) {
	for _, lengths := range described(t) {
		if s := written(t, lengths); len(s) < 2 || len(s) > 128 {
			t.Errorf("Write(%v) = %x has %d bytes", lengths, s, len(s))
		}
	}
}

// P15.6: no possible form is shorter.
func TestNoneIsShorter(t *testing.T) {
	for _, lengths := range described(t) {
		s := written(t, lengths)
		listed, _ := weight.Listed(lengths)
		direct, byFse, _ := tree.Possible(lengths)
		if form, err := weight.Direct(listed); direct && (len(form) < len(s) || err != api.OK) {
			t.Errorf("Write(%v) = %x, Direct %x, %v", lengths, s, form, err)
		}
		if form, err := tree.Fse(listed); byFse && (len(form) < len(s) || err != api.OK) {
			t.Errorf("Write(%v) = %x, Fse %x, %v", lengths, s, form, err)
		}
	}
}

// P15.7: the first byte tells which form it is, and how long it is.
func TestFirstByte(t *testing.T) {
	for _, lengths := range described(t) {
		s := written(t, lengths)
		listed, _ := weight.Listed(lengths)
		form, size := weight.Direct, 1+(len(listed)+1)/2
		if s[0] < 128 {
			form, size = tree.Fse, 1+int(s[0])
		}
		if want, err := form(listed); s != want || err != api.OK || len(s) != size || s[0] >= 128 && int(s[0]) != 127+len(listed) {
			t.Errorf("Write(%v) = %x, not %x of %d bytes", lengths, s, want, size)
		}
	}
}

// P15.8: a description that is cut off is refused.
func TestCutOff(t *testing.T) {
	for _, lengths := range described(t) {
		s := written(t, lengths)
		for n := range len(s) {
			readRefused(t, s[:n], 0, api.Fault{Err: api.ErrShort, At: n})
			readRefused(t, "ab"+s[:n], 2, api.Fault{Err: api.ErrShort, At: n + 2})
		}
	}
}
