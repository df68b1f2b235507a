package cursor_test

import (
	"math"
	"testing"

	"cheesepress/api"
	"cheesepress/cursor"
)

// P4.1: New at every offset, and beside the string.
func TestNew(t *testing.T) {
	for _, s := range texts() {
		for _, at := range append(numbers(), len(s), len(s)+1) {
			want := api.Cursor{S: s, At: at}
			if at < 0 || at > len(s) {
				want = api.Cursor{S: s, Fault: fault(api.ErrRange, 0)}
			}
			if got := cursor.New(s, at); got != want {
				t.Errorf("New(%x, %d) = %v, not %v", s, at, got, want)
			}
		}
	}
}

// P4.1: Check, and Left without and with a Fault.
func TestCheckLeft(t *testing.T) {
	for _, c := range sound() {
		if err := cursor.Check(c); err != api.OK {
			t.Errorf("Check(%v) = %v", c, err)
		}
		if n := cursor.Left(c); n != len(c.S)-c.At {
			t.Errorf("Left(%v) = %d", c, n)
		}
	}
	for _, c := range failed() {
		if err := cursor.Check(c); err != api.OK {
			t.Errorf("Check(%v) = %v", c, err)
		}
		if n := cursor.Left(c); n != 0 {
			t.Errorf("Left(%v) = %d", c, n)
		}
	}
	for err := api.Errno(1); err <= 31; err++ {
		if got := cursor.Check(api.Cursor{S: "ab", At: 1, Fault: fault(err, 2)}); got != api.OK {
			t.Errorf("Check with the error %v = %v", err, got)
		}
	}
}

// P4.1 to P4.4, P1: a cursor that is not valid counts as one without bytes, with the Fault ErrState at 0.
func TestWrongCursors(t *testing.T) {
	for _, c := range wrong() {
		if err := cursor.Check(c); err != api.ErrState {
			t.Errorf("Check(%v) = %v", c, err)
		}
		if n := cursor.Left(c); n != 0 {
			t.Errorf("Left(%v) = %d", c, n)
		}
		if f := cursor.End(c); f != lost().Fault {
			t.Errorf("End(%v) = %v", c, f)
		}
		for _, n := range numbers() {
			for _, r := range readings() {
				if next, read := r.read(c, n); next != lost() || read != "" {
					t.Errorf("%s(%v, %d) = %v, %x", r.name, c, n, next, read)
				}
			}
			if inner, _ := cursor.Inner(c, n); inner != lost() {
				t.Errorf("Inner(%v, %d) = %v", c, n, inner)
			}
			if got := cursor.Fail(c, api.ErrSum, n); got != lost() {
				t.Errorf("Fail(%v, ErrSum, %d) = %v", c, n, got)
			}
		}
	}
}

// P4.4: Fail with every code and offset.
func TestFail(t *testing.T) {
	for _, c := range sound() {
		for _, at := range append(numbers(), len(c.S), len(c.S)+1) {
			place := min(max(at, 0), len(c.S))
			for _, err := range []api.Errno{math.MinInt, -1, 0, 1, api.ErrForm, api.ErrSum, 30, 31, 32, 33, math.MaxInt} {
				want := c
				want.Fault = fault(err, place)
				if err < 1 || err > 31 {
					want.Fault.Err = api.ErrForm
				}
				if got := cursor.Fail(c, err, at); got != want {
					t.Errorf("Fail(%v, %d, %d) = %v, not %v", c, err, at, got, want)
				}
			}
		}
	}
}

// P4.4: End without a fault: ErrLong where bytes are left, and nothing at the end.
func TestEnd(t *testing.T) {
	for _, c := range sound() {
		want := fault(api.ErrLong, c.At)
		if c.At == len(c.S) {
			want = api.Fault{}
		}
		if got := cursor.End(c); got != want {
			t.Errorf("End(%v) = %v, not %v", c, got, want)
		}
	}
	for _, c := range failed() {
		if got := cursor.End(c); got != c.Fault {
			t.Errorf("End(%v) = %v", c, got)
		}
	}
}

// The chapter's examples.
func TestExamples(t *testing.T) {
	c := cursor.New("\x01\x02\x03", 0)
	c, first := cursor.Byte(c)
	if first != 1 || c != (api.Cursor{S: "\x01\x02\x03", At: 1}) {
		t.Errorf("Byte = %v, %d", c, first)
	}
	c, value := cursor.Little(c, 2)
	if value != 770 || c.At != 3 {
		t.Errorf("Little = %v, %d", c, value)
	}
	if c, value = cursor.Little(c, 1); value != 0 || c != (api.Cursor{S: "\x01\x02\x03", At: 3, Fault: fault(api.ErrShort, 3)}) {
		t.Errorf("Little at the end = %v, %d", c, value)
	}
	ab := cursor.New("ab", 1)
	if next, s := cursor.Bytes(ab, 1); s != "b" || next != (api.Cursor{S: "ab", At: 2}) {
		t.Errorf("Bytes(.., 1) = %v, %q", next, s)
	}
	if next, s := cursor.Bytes(ab, 2); s != "" || next != (api.Cursor{S: "ab", At: 1, Fault: fault(api.ErrShort, 2)}) {
		t.Errorf("Bytes(.., 2) = %v, %q", next, s)
	}
	if next := cursor.Skip(ab, -1); next != (api.Cursor{S: "ab", At: 1, Fault: fault(api.ErrRange, 1)}) {
		t.Errorf("Skip(.., -1) = %v", next)
	}
	if c := cursor.New("a", 2); c != (api.Cursor{S: "a", Fault: fault(api.ErrRange, 0)}) {
		t.Errorf("New(a, 2) = %v", c)
	}
	if c := cursor.New("", 0); c != (api.Cursor{}) {
		t.Errorf("New(none, 0) = %v", c)
	}
	if n := cursor.Left(ab); n != 1 {
		t.Errorf("Left = %d", n)
	}
	inner, after := cursor.Inner(cursor.New("\x01\x02\x03", 1), 1)
	if inner != (api.Cursor{S: "\x01\x02", At: 1}) || after != (api.Cursor{S: "\x01\x02\x03", At: 2}) {
		t.Errorf("Inner = %v, %v", inner, after)
	}
	for _, c := range []struct {
		end, want api.Fault
	}{
		{cursor.End(cursor.New("a", 0)), fault(api.ErrLong, 0)},
		{cursor.End(cursor.New("a", 1)), api.Fault{}},
		{cursor.End(cursor.Fail(cursor.New("a", 0), api.ErrSum, 9)), fault(api.ErrSum, 1)},
	} {
		if c.end != c.want {
			t.Errorf("End is %v, not %v", c.end, c.want)
		}
	}
	for _, n := range []int{0, 9} {
		if c, value := cursor.Little(cursor.New("a", 0), n); value != 0 || c != (api.Cursor{S: "a", Fault: fault(api.ErrRange, 0)}) {
			t.Errorf("Little(.., %d) = %v, %d", n, c, value)
		}
	}
}
