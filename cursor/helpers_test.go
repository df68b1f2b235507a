package cursor_test

import (
	"math"

	"cheesepress/api"
	"cheesepress/cursor"
)

// numbers are numbers of bytes, and offsets, at which a bound lies.
func numbers() []int {
	list := []int{math.MinInt, math.MinInt + 1, -256}
	for n := -9; n <= 14; n++ {
		list = append(list, n)
	}
	return append(list, 255, 256, math.MaxInt-1, math.MaxInt)
}

// texts are strings to be read.
func texts() []string {
	return []string{"", "a", "\x01\x02\x03", "\xff\x00\x80\x7f", "\x00\xff\xfe\x01\x80\x00\x7f\x10\x20\x30\xff", "\xff\xff\xff\xff\xff\xff\xff\xff\xff"}
}

// fault is a fault with an offset.
func fault(err api.Errno, at int) api.Fault {
	return api.Fault{Err: err, At: at}
}

// sound are the cursors of all texts at all offsets, without a fault.
func sound() []api.Cursor {
	var list []api.Cursor
	for _, s := range texts() {
		for at := range len(s) + 1 {
			list = append(list, api.Cursor{S: s, At: at})
		}
	}
	return list
}

// failed are valid cursors with a fault.
func failed() []api.Cursor {
	var list []api.Cursor
	for _, c := range sound() {
		for _, err := range []api.Errno{1, api.ErrShort, api.ErrState, 31} {
			for _, at := range []int{0, c.At, len(c.S)} {
				list = append(list, api.Cursor{S: c.S, At: c.At, Fault: fault(err, at)})
			}
		}
	}
	return list
}

// wrong are cursors that are not valid.
func wrong() []api.Cursor {
	var list []api.Cursor
	for _, at := range []int{-1, 3, 4, math.MinInt, math.MaxInt} {
		list = append(list, api.Cursor{S: "ab", At: at}, api.Cursor{S: "ab", At: at, Fault: fault(api.ErrSum, 1)})
		list = append(list, api.Cursor{S: "ab", Fault: fault(api.OK, at)}, api.Cursor{S: "ab", Fault: fault(api.ErrSum, at)})
	}
	for _, at := range []int{1, 2} {
		list = append(list, api.Cursor{S: "ab", Fault: fault(api.OK, at)}, api.Cursor{S: "ab", At: 1, Fault: fault(api.OK, at)})
	}
	for _, err := range []api.Errno{-1, 32, 33, math.MinInt, math.MaxInt} {
		list = append(list, api.Cursor{S: "ab", Fault: fault(err, 0)}, api.Cursor{S: "ab", At: 2, Fault: fault(err, 2)})
	}
	return append(list, api.Cursor{At: 1}, api.Cursor{At: -1}, api.Cursor{Fault: fault(api.ErrSum, 1)})
}

// lost is what a cursor that is not valid counts as.
func lost() api.Cursor {
	return api.Cursor{Fault: fault(api.ErrState, 0)}
}

// reading is a function that moves a cursor by n bytes, and what it gave as text.
type reading struct {
	name string
	read func(c api.Cursor, n int) (api.Cursor, string)
}

// readings are all functions that read n bytes; what is read is a text, whose numbers have eight bytes.
func readings() []reading {
	return []reading{
		{"Byte", func(c api.Cursor, n int) (api.Cursor, string) {
			next, value := cursor.Byte(c)
			return next, text(uint64(value))
		}},
		{"Little", func(c api.Cursor, n int) (api.Cursor, string) {
			next, value := cursor.Little(c, n)
			return next, text(value)
		}},
		{"Bytes", cursor.Bytes},
		{"Skip", func(c api.Cursor, n int) (api.Cursor, string) { return cursor.Skip(c, n), "" }},
		{"Inner", func(c api.Cursor, n int) (api.Cursor, string) {
			_, next := cursor.Inner(c, n)
			return next, ""
		}},
	}
}

// text is a number that is not 0 as eight bytes, the lowest one first.
func text(value uint64) string {
	if value == 0 {
		return ""
	}
	var b []byte
	for range 8 {
		b = append(b, byte(value%256))
		value /= 256
	}
	return string(b)
}

// littleOf is the sum of bytes, each multiplied by 256 as often as there are bytes before it.
func littleOf(bytes string) uint64 {
	var sum uint64
	for i := len(bytes) - 1; i >= 0; i-- {
		sum = sum*256 + uint64(bytes[i])
	}
	return sum
}
