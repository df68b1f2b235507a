package weight_test

import (
	"math"
	"math/rand"
	"slices"
	"strings"
	"testing"

	"cheesepress/api"
	"cheesepress/samples"
	"cheesepress/weight"
)

// readRefused checks that ReadDirect has a fault, and nothing else.
func readRefused(t *testing.T, s string, at int, want api.Fault) {
	t.Helper()
	if l, next, f := weight.ReadDirect(s, at); l != nil || next != 0 || f != want {
		t.Errorf("ReadDirect(%x, %d) = %v, %d, %v, not %v", s, at, l, next, f, want)
	}
}

// P14.3: Direct, against hexadecimal digits.
func TestDirect(t *testing.T) {
	long := 0
	for _, l := range rightListed() {
		want, wantErr := "", api.ErrLong
		if len(l) <= 128 {
			want, wantErr = modelDirect(l), api.OK
		} else {
			long++
		}
		if got, err := weight.Direct(l); got != want || err != wantErr {
			t.Errorf("Direct(%v) = %x, %v, not %x, %v", l, got, err, want, wantErr)
		}
	}
	if long < 10 {
		t.Errorf("just %d lists are too long", long)
	}
}

// P14.3: 128 weights are described, and 129 are too many.
func TestMostDirect(t *testing.T) {
	l := samples.Behind([]int{8}, samples.Full(127, 1)...)
	if s, err := weight.Direct(l); len(s) != 65 || s[0] != 255 || err != api.OK {
		t.Errorf("Direct(%v) = %x, %v", l, s, err)
	}
	if s, err := weight.Direct(samples.Behind(l, 0)); s != "" || err != api.ErrLong {
		t.Errorf("Direct of 129 weights = %x, %v", s, err)
	}
}

// P14.3, P1: offsets that are none.
func TestReadRange(t *testing.T) {
	for _, s := range []string{"", "\x80\x10", "\x05", "\x82\x32\x10\x09"} {
		for _, at := range []int{math.MinInt, -2, -1, len(s) + 1, len(s) + 2, math.MaxInt} {
			readRefused(t, s, at, api.Fault{Err: api.ErrRange})
		}
		readRefused(t, s, len(s), api.Fault{Err: api.ErrShort, At: len(s)})
	}
}

// P14.3: a first byte below 128 is ErrTree, whatever follows.
func TestReadFirstByte(t *testing.T) {
	for h := range 128 {
		s := string([]byte{9, byte(h)})
		readRefused(t, s, 1, api.Fault{Err: api.ErrTree, At: 1})
		readRefused(t, s+strings.Repeat("\x10", 200), 1, api.Fault{Err: api.ErrTree, At: 1})
	}
}

// P14.3: strings that look like chance, against what their hexadecimal digits say.
func TestReadChance(t *testing.T) {
	chance := rand.New(rand.NewSource(41))
	read, refused := 0, 0
	for i := range 40000 {
		n := 1 + chance.Intn(6)
		digits := make([]int, n+n%2)
		for j := range digits {
			digits[j] = chance.Intn(2 + i%15)
		}
		s := "zz"[:i%3] + string([]byte{byte(127 + n)})
		for j := 0; j < len(digits); j += 2 {
			s += string([]byte{byte(16*digits[j] + digits[j+1])})
		}
		s += "more"[:i%5]
		if _, _, err := modelImplied(digits[:n]); err != api.OK {
			readRefused(t, s, i%3, api.Fault{Err: api.ErrTree, At: i % 3})
			refused++
			continue
		}
		read++
		if l, next, f := weight.ReadDirect(s, i%3); !slices.Equal(l, digits[:n]) || next != i%3+1+len(digits)/2 || f != (api.Fault{}) {
			t.Errorf("ReadDirect(%x, %d) = %v, %d, %v", s, i%3, l, next, f)
		}
	}
	if read < 1000 || refused < 1000 {
		t.Errorf("%d descriptions are read, and %d are refused", read, refused)
	}
}

// P14.3: what is cut off is short, also where its weights would be wrong.
func TestReadCutOff(t *testing.T) {
	for n := 1; n <= 128; n++ {
		s := string([]byte{byte(127 + n)}) + strings.Repeat("\xff", (n+1)/2)
		for end := 1; end < len(s); end++ {
			readRefused(t, s[:end], 0, api.Fault{Err: api.ErrShort, At: end})
			readRefused(t, "ab"+s[:end], 2, api.Fault{Err: api.ErrShort, At: end + 2})
		}
		readRefused(t, s, 0, api.Fault{Err: api.ErrTree, At: 0})
		readRefused(t, "ab"+s, 2, api.Fault{Err: api.ErrTree, At: 2})
	}
}

// P14.3: the lower half of a last byte with one weight does not matter.
func TestReadLastHalf(t *testing.T) {
	for low := range 16 {
		s := string([]byte{0x82, 0x32, byte(0x10 + low)})
		if l, next, f := weight.ReadDirect(s, 0); !slices.Equal(l, []int{3, 2, 1}) || next != 3 || f != (api.Fault{}) {
			t.Errorf("ReadDirect(%x, 0) = %v, %d, %v", s, l, next, f)
		}
	}
}
