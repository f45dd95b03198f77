// Package count is layer 1: see shared/doc/01-count.md.
package count

import (
	"iter"

	"hearsay/api"
)

const (
	width = 7          // bits of the number in a byte
	more  = 1 << width // what each byte but the last has in addition
	most  = 5          // no number up to api.MaxNumber has more bytes
)

// Put is a number's bytes; none, if there is no such number.
func Put(n int) string {
	put := make([]byte, 0, most)
	for b := range bytesOf(n) {
		put = append(put, b)
	}
	return string(put)
}

// Size is how many bytes a number has.
func Size(n int) int {
	size := 0
	for range bytesOf(n) {
		size++
	}
	return size
}

// Take is the number that a text begins with, and how many bytes it has.
func Take(s string) (int, int, api.Errno) {
	size, err := sizeAhead(s)
	if err != api.OK {
		return 0, 0, err
	}
	if size > 1 && s[size-1] == 0 {
		return 0, 0, api.ErrForm
	}
	n := numberOf(s[:size])
	if n > api.MaxNumber {
		return 0, 0, api.ErrSize
	}
	return int(n), size, api.OK
}

// bytesOf tells a number's bytes, the lowest first; of what is no number, none.
func bytesOf(n int) iter.Seq[byte] {
	return func(yield func(byte) bool) {
		if n < 0 || n > api.MaxNumber {
			return
		}
		rest := n // a copy, so that the bytes can be gone through again
		for rest >= more {
			if !yield(byte(rest%more + more)) {
				return
			}
			rest /= more
		}
		yield(byte(rest))
	}
}

// sizeAhead is how many bytes stand at a text's beginning up to a last one.
func sizeAhead(s string) (int, api.Errno) {
	for i := range most {
		if i == len(s) {
			return 0, api.ErrShort
		}
		if s[i] < more {
			return i + 1, api.OK
		}
	}
	return 0, api.ErrSize
}

// numberOf is the number whose bytes these are: of 64 bits, as five bytes hold more than an int of 32 would.
func numberOf(s string) uint64 {
	n := uint64(0)
	for i := len(s) - 1; i >= 0; i-- {
		n = n<<width + uint64(s[i]%more)
	}
	return n
}
