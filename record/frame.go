package record

import "lantern/api"

const (
	wordSize = 4
	headSize = 2 * wordSize // of a frame: its record's length and sum
)

// polynomial is that of the usual CRC, its bits the other way round.
const polynomial = 0xEDB88320

// Frame is the frames of records, one behind another.
func Frame(l []api.Record) ([]byte, api.Errno) {
	var all []byte
	for _, r := range l {
		b, e := Print(r)
		if e != api.OK {
			return nil, e
		}
		all = putWord(all, uint32(len(b)))
		all = putWord(all, Sum(b))
		all = append(all, b...)
	}
	return all, api.OK
}

// Scan is the records whose frames stand whole at the beginning of some bytes, and how many bytes these have.
func Scan(b []byte) ([]api.Record, int) {
	var l []api.Record
	at := 0
	for {
		r, count := first(b[at:])
		if count == 0 {
			return l, at
		}
		l = append(l, r)
		at += count
	}
}

// first is the record whose frame b begins with, and how many bytes that has: 0, if there is none.
func first(b []byte) (api.Record, int) {
	if len(b) < headSize {
		return api.Record{}, 0
	}
	count, sum, behind := int(word(b)), word(b[wordSize:]), b[headSize:]
	// What is too long for a record is not summed: the bytes may be anybody's, and many.
	if count > api.MaxRecord || count > len(behind) || Sum(behind[:count]) != sum {
		return api.Record{}, 0
	}
	r, e := Read(behind[:count])
	if e != api.OK {
		return api.Record{}, 0
	}
	return r, headSize + count
}

// Sum is the CRC of 32 bits.
func Sum(b []byte) uint32 {
	register := ^uint32(0)
	for _, c := range b {
		register ^= uint32(c)
		for range 8 {
			register = register>>1 ^ polynomial*(register&1)
		}
	}
	return ^register
}

// word is the number that four bytes are, the highest one first.
func word(b []byte) uint32 {
	return uint32(b[0])<<24 | uint32(b[1])<<16 | uint32(b[2])<<8 | uint32(b[3])
}

func putWord(b []byte, n uint32) []byte {
	return append(b, byte(n>>24), byte(n>>16), byte(n>>8), byte(n))
}
