// Package sdnv is layer 1: numbers in as few bytes as there can be: see shared/doc/01-sdnv.md.
package sdnv

import (
	"math"
	"math/bits"

	"lantern/api"
)

const (
	digitBits = 7
	more      = 1 << digitBits // on a byte behind which the number goes on
)

// Size is how many bytes a number has.
func Size(n uint64) int {
	// 0 has a digit, too.
	return (bits.Len64(n|1) + digitBits - 1) / digitBits
}

// Bytes is a number as bytes.
func Bytes(n uint64) []byte { return put(nil, n) }

// Read is the number at the head of b, and how many bytes it has.
func Read(b []byte) (uint64, int, api.Errno) {
	var n uint64
	fault := api.ErrSdnvShort
number:
	for i, c := range b {
		switch {
		case i == 0 && c == more:
			fault = api.ErrSdnvForm
			break number
		case n > math.MaxUint64>>digitBits: // whatever the digit, there is no room for it
			fault = api.ErrSdnvRange
			break number
		case c < more:
			return n<<digitBits | uint64(c), i + 1, api.OK
		}
		n = n<<digitBits | uint64(c-more)
	}
	return 0, 0, fault
}

// Join is numbers as bytes, one behind the other.
func Join(l []uint64) []byte {
	var b []byte
	for _, n := range l {
		b = put(b, n)
	}
	return b
}

// All is the numbers that b is, one behind the other.
func All(b []byte) ([]uint64, api.Errno) {
	var l []uint64
	for len(b) > 0 {
		n, size, e := Read(b)
		if e != api.OK {
			return nil, e
		}
		l = append(l, n)
		b = b[size:]
	}
	return l, api.OK
}

// put puts a number's bytes behind b.
func put(b []byte, n uint64) []byte {
	for i := Size(n) - 1; i > 0; i-- {
		b = append(b, byte(n>>(digitBits*i))|more)
	}
	return append(b, byte(n)&^more)
}
