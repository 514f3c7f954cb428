// Package compact is numbers and rows, as short as they can be: see DOC.md, chapter 1.
package compact

import (
	"bytes"
	"iter"
	"math/bits"
)

const (
	top      = 1 << 62 // the greatest number there is
	longSize = 4       // the fewest bytes of a number in the long way
	topSize  = 1 + 8   // the size of the greatest number
)

// Size is how many bytes a number has.
func Size(n int) int {
	switch {
	case n < 1<<6:
		return 1
	case n < 1<<14:
		return 2
	case n < 1<<30:
		return 4
	}
	return 1 + (bits.Len(uint(min(n, top)))+7)/8
}

// Put lays numbers.
func Put(b []byte, l ...int) []byte {
	out := bytes.Clone(b)
	for _, n := range l {
		out = put(out, within(n))
	}
	return out
}

// Take takes a number.
func Take(b []byte) (n, size int, ok bool) {
	if len(b) == 0 {
		return 0, 0, false
	}
	size = told(b[0])
	if size > topSize || size > len(b) {
		return 0, 0, false
	}
	var u uint
	if size > longSize {
		u = value(b[1:size])
	} else {
		u = value(b[:size]) >> 2
	}
	if u > top || Size(int(u)) != size {
		return 0, 0, false
	}
	return int(u), size, true
}

// Row lays rows.
func Row(b []byte, l ...[]byte) []byte {
	out := bytes.Clone(b)
	for _, p := range l {
		out = append(put(out, len(p)), p...)
	}
	return out
}

// Cut takes a row.
func Cut(b []byte) (p []byte, size int, ok bool) {
	n, head, ok := Take(b)
	if !ok || n > len(b)-head {
		return nil, 0, false
	}
	return bytes.Clone(b[head : head+n]), head + n, true
}

// Nums is all numbers.
func Nums(b []byte) iter.Seq2[int, int] { return placed(parts(bytes.Clone(b), Take)) }

// Rows is all rows.
func Rows(b []byte) iter.Seq2[int, []byte] { return placed(parts(bytes.Clone(b), Cut)) }

// within holds n within what a number may be.
func within(n int) int { return min(max(n, 0), top) }

// put lays a number that is within its bounds; b may be written behind its end.
func put(b []byte, n int) []byte {
	size := Size(n)
	switch size {
	case 1:
		return low(b, n<<2, size)
	case 2:
		return low(b, n<<2|1, size)
	case 4:
		return low(b, n<<2|2, size)
	}
	return low(append(b, byte((size-1-longSize)<<2|3)), n, size-1)
}

// low lays size bytes of n, the lowest first.
func low(b []byte, n, size int) []byte {
	for range size {
		b = append(b, byte(n))
		n >>= 8
	}
	return b
}

// told is the size of a number, as its first byte tells it.
func told(first byte) int {
	switch first & 3 {
	case 0:
		return 1
	case 1:
		return 2
	case 2:
		return 4
	}
	return 1 + longSize + int(first>>2)
}

// value is the number that at most eight bytes make, the lowest first.
func value(b []byte) uint {
	var u uint
	for i, c := range b {
		u |= uint(c) << (8 * i)
	}
	return u
}

// parts is what take finds in b, one behind the other, as long as it finds any.
func parts[T any](b []byte, take func([]byte) (T, int, bool)) iter.Seq[T] {
	return func(yield func(T) bool) {
		for rest := b; ; {
			x, size, ok := take(rest)
			if !ok || !yield(x) {
				return
			}
			rest = rest[size:]
		}
	}
}

// placed is all of seq by its places from 0 on.
func placed[T any](seq iter.Seq[T]) iter.Seq2[int, T] {
	return func(yield func(int, T) bool) {
		i := 0
		for x := range seq {
			if !yield(i, x) {
				return
			}
			i++
		}
	}
}
