package imports

import (
	"math/bits"

	"lantern/api"
)

// marks are bytes of a block, each as a bit. A set would not do: claims of many reports can have more spans together than a set may have.
type marks struct {
	words []uint64
	count int // how many bytes are marked
}

const wordBits = 64

// add marks the bytes of a span.
func (m *marks) add(s api.Span) {
	first, last := s.From/wordBits, (s.To-1)/wordBits
	if lacks := last + 1 - len(m.words); lacks > 0 {
		m.words = append(m.words, make([]uint64, lacks)...)
	}
	for i := first; i <= last; i++ {
		word := bitsBetween(max(s.From-i*wordBits, 0), min(s.To-i*wordBits, wordBits))
		m.count += bits.OnesCount64(word &^ m.words[i])
		m.words[i] |= word
	}
}

// bitsBetween has those bits of a word from one place on, up to but not including another one above it.
func bitsBetween(from, to int) uint64 {
	return ^uint64(0) >> (wordBits - to) &^ (1<<from - 1)
}
