package dist_test

import (
	"math"
	"strings"
	"testing"

	"cheesepress/api"
	"cheesepress/digits"
	"cheesepress/dist"
	"cheesepress/samples"
)

// P8.3, P8.6: Read of whatever bytes, for many limits, from the beginning and behind other bytes.
func TestRead(t *testing.T) {
	read := 0
	for i, s := range descriptions(6000) {
		most, symbols := 5+i%8, []int{256, 255, 53, 36, 13, 1}[i%6]
		want, bits, wantErr := modelRead(s, most, symbols)
		for _, at := range []int{0, 3} {
			d, next, f := dist.Read("abc"[:at]+s, at, most, symbols)
			if wantErr != api.OK {
				if !none(d) || next != 0 || f != (api.Fault{Err: wantErr, At: at}) {
					t.Errorf("Read(%x, %d, %d) at %d = %v, %d, %v, not %v", s, most, symbols, at, d, next, f, wantErr)
				}
				continue
			}
			if !dist.Same(d, want) || next != at+(bits+7)/8 || f != (api.Fault{}) {
				t.Errorf("Read(%x, %d, %d) at %d = %v, %d, %v, not %v", s, most, symbols, at, d, next, f, want)
			}
			if dist.Check(d) != api.OK || d.Log > most || len(d.Probs) > symbols {
				t.Errorf("Read(%x, %d, %d) = %v is not right", s, most, symbols, d)
			}
			read++
		}
	}
	if read < 1000 {
		t.Errorf("just %d descriptions were read", read)
	}
}

// P8.3, P1: ErrRange at 0 because of an argument, whatever the bytes are.
func TestReadRange(t *testing.T) {
	s := written(samples.Of(5, 16, 16))
	outside := func(least, most int) []int {
		return []int{math.MinInt, -1, least - 1, most + 1, most + 2, math.MaxInt}
	}
	check := func(at, most, symbols int) {
		if d, next, f := dist.Read(s, at, most, symbols); !none(d) || next != 0 || f != (api.Fault{Err: api.ErrRange}) {
			t.Errorf("Read(%x, %d, %d, %d) = %v, %d, %v", s, at, most, symbols, d, next, f)
		}
	}
	for _, at := range outside(0, len(s)) {
		check(at, 9, 9)
	}
	for _, most := range outside(5, 12) {
		check(0, most, 9)
		check(1, most, 9)
	}
	for _, symbols := range outside(1, 256) {
		check(0, 9, symbols)
		check(len(s), 9, symbols)
	}
}

// P8.3: the bounds of the arguments; at the end of the string the bytes are used up.
func TestReadBounds(t *testing.T) {
	for _, d := range samples.Right() {
		s := written(d)
		if got, next, f := dist.Read(s, 0, d.Log, len(d.Probs)); !dist.Same(got, d) || next != len(s) || f != (api.Fault{}) {
			t.Errorf("Read(%x) = %v, %d, %v, not %v", s, got, next, f, d)
		}
		if d.Log > 5 {
			if got, next, f := dist.Read("x"+s, 1, d.Log-1, len(d.Probs)); !none(got) || next != 0 || f != (api.Fault{Err: api.ErrAccuracy, At: 1}) {
				t.Errorf("Read(%x) with a Log above most = %v, %d, %v", s, got, next, f)
			}
		}
		if len(d.Probs) > 1 {
			if got, next, f := dist.Read("x"+s, 1, d.Log, len(d.Probs)-1); !none(got) || next != 0 || f != (api.Fault{Err: api.ErrTable, At: 1}) {
				t.Errorf("Read(%x) with too many symbols = %v, %d, %v", s, got, next, f)
			}
		}
		if got, next, f := dist.Read(s, len(s), 12, 256); !none(got) || next != 0 || f != (api.Fault{Err: api.ErrTable, At: len(s)}) {
			t.Errorf("Read(%x) at its end = %v, %d, %v", s, got, next, f)
		}
	}
}

// P8.3: an accuracy that is too great is found behind 4 bits, before anything else.
func TestReadAccuracy(t *testing.T) {
	for low := range 16 {
		for most := 5; most <= 12; most++ {
			want := api.ErrTable
			if 5+low > most {
				want = api.ErrAccuracy
			}
			if d, next, f := dist.Read(string([]byte{byte(0xf0 | low)}), 0, most, 1); !none(d) || next != 0 || f != (api.Fault{Err: want}) {
				t.Errorf("Read of the accuracy %d, %d at most = %v, %d, %v", 5+low, most, d, next, f)
			}
		}
	}
}

// P8.3, P1: strings that are longer than any input.
func TestReadLong(t *testing.T) {
	long := strings.Repeat("x", api.MaxInput)
	for _, d := range samples.Right()[:10] {
		s := written(d)
		for _, at := range []int{0, 1, len(long)} {
			got, next, f := dist.Read(long[:at]+s+long, at, d.Log, len(d.Probs))
			if !dist.Same(got, d) || next != at+len(s) || f != (api.Fault{}) {
				t.Errorf("Read of %v in a long string = %v, %d, %v", d, got, next, f)
			}
		}
	}
	for _, s := range []string{long + long, strings.Repeat("\xff", api.MaxInput+1), "\x00" + strings.Repeat("\xff", api.MaxInput)} {
		_, _, wantErr := modelRead(s[:600], 12, 256)
		if d, next, f := dist.Read(s, 0, 12, 256); f.Err != wantErr || wantErr != api.OK && (!none(d) || next != 0) {
			t.Errorf("Read of a long string = %v, %d, %v", d, next, f)
		}
	}
}

// P8.4, P8.2: a distribution is read from its description, whatever follows.
func TestWrittenIsRead(t *testing.T) {
	for _, d := range samples.Right() {
		for _, around := range []string{"", "\x00", "\xff\xff", "abcdefgh"} {
			s := written(d)
			got, next, f := dist.Read(around+s+around, len(around), 12, 256)
			if !dist.Same(got, d) || next != len(around)+len(s) || f != (api.Fault{}) {
				t.Errorf("Read of Write(%v) = %v, %d, %v", d, got, next, f)
			}
		}
	}
}

// P8.4: what was read is written in no more bytes, and read again; it is what was read, unless zeros were told otherwise.
func TestReadIsWritten(t *testing.T) {
	same := 0
	for _, s := range descriptions(6000) {
		d, next, f := dist.Read(s, 0, 12, 256)
		if f.Err != api.OK {
			continue
		}
		again := written(d)
		if len(again) > next {
			t.Errorf("%x has %d bytes, and Write(%v) = %x", s, next, d, again)
		}
		if got, _, f := dist.Read(again, 0, 12, 256); !dist.Same(got, d) || f != (api.Fault{}) {
			t.Errorf("Read of Write(%v) = %v, %v", d, got, f)
		}
		n, _ := dist.Bits(d)
		if digits.Text(s)[:n] == digits.Text(again)[:n] {
			same++
			continue
		}
		if !strings.Contains(zerosOf(d), "00") {
			t.Errorf("%x was read as %v, and is written as %x", s, d, again)
		}
	}
	if same < 500 {
		t.Errorf("just %d descriptions are what was read", same)
	}
}

// zerosOf shows which probabilities are 0.
func zerosOf(d api.Dist) string {
	var b strings.Builder
	for _, prob := range d.Probs {
		if prob == 0 {
			b.WriteByte('0')
		} else {
			b.WriteByte('x')
		}
	}
	return b.String()
}

// P8.3, P8.4: zeros may be told in several ways: none behind each, or in groups.
func TestZerosToldOtherwise(t *testing.T) {
	d := samples.Of(5, 0, 0, 0, 32)
	for _, zeros := range []string{"01", "00" + "10000" + "10", "10" + "10000" + "00", "00" + "10000" + "00" + "10000" + "00"} {
		s := digits.Pack("0000" + "10000" + zeros + "111111")
		if got, next, f := dist.Read(s, 0, 5, 4); !dist.Same(got, d) || next != len(s) || f != (api.Fault{}) {
			t.Errorf("Read(%x) = %v, %d, %v", s, got, next, f)
		}
	}
}

// P8.5: a description that is cut off is ErrTable.
func TestCutOff(t *testing.T) {
	for _, d := range samples.Right() {
		s := written(d)
		for n := range len(s) {
			for _, at := range []int{0, 2} {
				if got, next, f := dist.Read("zz"[:at]+s[:n], at, 12, 256); !none(got) || next != 0 || f != (api.Fault{Err: api.ErrTable, At: at}) {
					t.Errorf("Read of %d bytes of %x = %v, %d, %v", n, s, got, next, f)
				}
			}
		}
	}
}
