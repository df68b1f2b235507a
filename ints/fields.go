package ints

import "cheesepress/api"

// maxField is how many bytes a field has at most.
const maxField = 8

// integer is what fields are written of, and read as.
type integer interface {
	~int | ~int64 | ~uint | ~uint64
}

// Little returns the field of n, which has size bytes.
func Little(n uint64, size int) (string, api.Errno) {
	if !isSize(size) || n>>(8*size) != 0 {
		return "", api.ErrRange
	}
	return field(n, size), api.OK
}

// Read returns the number of the field of size bytes at at, and the offset behind it.
func Read(s string, at, size int) (n uint64, next int, f api.Fault) {
	if !isSize(size) || at < 0 || at > len(s) {
		return 0, 0, api.Fault{Err: api.ErrRange}
	}
	if len(s)-at < size {
		return 0, 0, api.Fault{Err: api.ErrShort, At: len(s)}
	}
	return number[uint64](s[at : at+size]), at + size, api.Fault{}
}

func isSize(size int) bool {
	return size >= 1 && size <= maxField
}

// field returns the lowest bytes of n, the lowest one first.
func field[T integer](n T, size int) string {
	bytes := make([]byte, size)
	for i := range bytes {
		bytes[i] = byte(n >> (8 * i))
	}
	return string(bytes)
}

// number returns what a field stands for.
func number[T integer](field string) T {
	var n T
	for i := range len(field) {
		n |= T(field[i]) << (8 * i)
	}
	return n
}
