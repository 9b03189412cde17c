package blocks

import (
	"slices"

	"lantern/api"
	"lantern/claims"
)

// Buffer holds the bytes of a red part that came.
type Buffer struct {
	have    []api.Span
	bytes   []byte // as far as the last one that came; nothing, once dropped
	dropped bool
}

// New is an empty one.
func New() *Buffer { return &Buffer{} }

// Look tells what Put would do.
func (b *Buffer) Look(at int, data []byte) (fresh, clash int, e api.Errno) {
	_, fresh, e = b.grown(at, data)
	if e != api.OK {
		return 0, 0, e
	}
	return fresh, b.clash(at, data), api.OK
}

// Put puts bytes at their place; those that are there stay.
func (b *Buffer) Put(at int, data []byte) (fresh, clash int, e api.Errno) {
	have, fresh, e := b.grown(at, data)
	if e != api.OK {
		return 0, 0, e
	}
	clash = b.clash(at, data)
	b.take(at, data)
	b.have = have
	return fresh, clash, api.OK
}

// grown is the places to which a byte came, with those of data, and how many of these are new.
func (b *Buffer) grown(at int, data []byte) ([]api.Span, int, api.Errno) {
	switch {
	case len(data) > api.MaxBlock:
		return nil, 0, api.ErrLong
	case len(data) == 0 || !between(at, 0, api.MaxBlock-len(data)):
		return nil, 0, api.ErrArg
	}
	return claims.Add(b.have, places(at, data))
}

// places are those to which data come.
func places(at int, data []byte) api.Span { return api.Span{From: at, To: at + len(data)} }

// clash counts the bytes that are held otherwise than they come.
func (b *Buffer) clash(at int, data []byte) int {
	n := 0
	if b.dropped {
		return n
	}
	for piece, came := range claims.Walk(b.have, places(at, data)) {
		for i := piece.From; came && i < piece.To; i++ {
			if b.bytes[i] != data[i-at] {
				n++
			}
		}
	}
	return n
}

// take copies to their places those bytes that are new.
func (b *Buffer) take(at int, data []byte) {
	if b.dropped {
		return
	}
	if lacks := at + len(data) - len(b.bytes); lacks > 0 {
		b.bytes = append(b.bytes, make([]byte, lacks)...)
	}
	for piece, came := range claims.Walk(b.have, places(at, data)) {
		if !came {
			copy(b.bytes[piece.From:piece.To], data[piece.From-at:])
		}
	}
}

// Have tells which bytes came.
func (b *Buffer) Have() []api.Span { return slices.Clone(b.have) }

// Held tells how many bytes are held.
func (b *Buffer) Held() int {
	if b.dropped {
		return 0
	}
	return claims.Size(b.have)
}

// Read gives bytes, if all of them came.
func (b *Buffer) Read(s api.Span) ([]byte, bool) {
	if b.dropped || s.From >= s.To || !claims.Covers(b.have, s) {
		return nil, false
	}
	return slices.Clone(b.bytes[s.From:s.To]), true
}

// Drop lets the bytes go.
func (b *Buffer) Drop() { b.bytes, b.dropped = nil, true }
