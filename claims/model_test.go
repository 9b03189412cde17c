package claims_test

import (
	"slices"

	"lantern/api"
)

// What the chapter says, once more and in another way than the package: bytes one by one.

const (
	top   = 4611686018427387903 // MaxNum
	limit = 2000                // MaxSpans
)

// set is spans, by their From and To in turns.
func set(ends ...int) (l []api.Span) {
	for i := 0; i < len(ends); i += 2 {
		l = append(l, api.Span{From: ends[i], To: ends[i+1]})
	}
	return l
}

func span(from, to int) api.Span { return api.Span{From: from, To: to} }

// comb is so many spans of a byte each, from a byte on, with so many bytes between.
func comb(from, count, between int) (l []api.Span) {
	for i := range count {
		at := from + i*(1+between)
		l = append(l, span(at, at+1))
	}
	return l
}

func mayBeAsked(s api.Span) bool { return s.From >= 0 && s.To >= s.From && s.To <= top }
func mayBe(s api.Span) bool      { return s.From >= 0 && s.To > s.From && s.To <= top }

// isSet holds each two neighbours against each other.
func isSet(l []api.Span) bool {
	for i := range l {
		if !mayBe(l[i]) || i > 0 && !(l[i].From > l[i-1].To) {
			return false
		}
	}
	return len(l) <= limit
}

// window is some bytes from a base on: whether each is there.
type window struct {
	base int
	has  []bool
}

// painted is a window in which the bytes of some spans are there.
func painted(base, width int, l ...api.Span) window {
	w := window{base, make([]bool, width)}
	for _, s := range l {
		for at := s.From; at < s.To; at++ {
			w.has[at-base] = true
		}
	}
	return w
}

// both is a window with what holds of two at each byte.
func both(a, b window, holds func(inA, inB bool) bool) window {
	w := window{a.base, make([]bool, len(a.has))}
	for i := range w.has {
		w.has[i] = holds(a.has[i], b.has[i])
	}
	return w
}

func or(a, b bool) bool  { return a || b }
func and(a, b bool) bool { return a && b }
func not(a, b bool) bool { return b && !a } // what the second has and the first has not

// spans is the set of what is there, by going from byte to byte; too many spans are told as they are.
func (w window) spans() (l []api.Span) {
	for i, in := range w.has {
		switch {
		case !in:
		case i > 0 && w.has[i-1]:
			l[len(l)-1].To++
		default:
			l = append(l, span(w.base+i, w.base+i+1))
		}
	}
	return l
}

// count is how many bytes are there.
func (w window) count() (n int) {
	for _, in := range w.has {
		if in {
			n++
		}
	}
	return n
}

// answered is a set and an error as the chapter asks for them, of spans that may be too many.
func answered(l []api.Span) ([]api.Span, api.Errno) {
	if len(l) > limit {
		return nil, 3
	}
	return l, 0
}

// piece is what a Walk gives at one time.
type piece struct {
	span api.Span
	in   bool
}

// walked is the pieces of a span, byte by byte.
func walked(w window, s api.Span) (l []piece) {
	for at := s.From; at < s.To; at++ {
		in := w.has[at-w.base]
		if n := len(l); n > 0 && l[n-1].in == in {
			l[n-1].span.To++
			continue
		}
		l = append(l, piece{span(at, at+1), in})
	}
	return l
}

// all is every set within so many bytes from a base on.
func all(base, width int) (l [][]api.Span) {
	for bits := range 1 << width {
		w := window{base, make([]bool, width)}
		for i := range width {
			w.has[i] = bits>>i&1 == 1
		}
		l = append(l, w.spans())
	}
	return l
}

// asked is every span that may be asked within so many bytes from a base on.
func asked(base, width int) (l []api.Span) {
	for from := base; from <= base+width; from++ {
		for to := from; to <= base+width; to++ {
			l = append(l, span(from, to))
		}
	}
	return l
}

// noSets are lists of each kind that is none.
func noSets() [][]api.Span {
	return [][]api.Span{
		set(0, 3, 3, 9),           // they touch
		set(0, 3, 2, 9),           // they have bytes in common
		set(0, 3, 0, 3),           // twice the same
		set(5, 9, 0, 3),           // the wrong way round
		set(0, 1, 5, 9, 3, 4),     // the last one, too
		set(3, 3),                 // without bytes
		set(0, 0),                 // at the very beginning
		set(top, top),             // at the very end
		set(0, 2, 4, 4),           // behind another one
		set(4, 3),                 // ends ahead of its beginning
		set(-1, 3),                // below 0
		set(-5, -3),               // all of it
		set(0, top+1),             // above MaxNum
		set(0, 3, top, top+1),     // behind another one
		set(0, minInt),            // as far below as can be
		set(minInt, maxInt),       // as long as can be
		set(maxInt, minInt),       // and the other way round
		set(0, maxInt, minInt, 3), // behind the greatest number there is none
		set(0, maxInt, minInt, maxInt),
		comb(0, limit+1, 1), // one too many
		comb(0, limit+1, 0), // and touching, too
		comb(top-2*limit-1, limit+1, 1),
	}
}

const (
	maxInt = 1<<63 - 1
	minInt = -1 << 63
)

// notAsked are spans that may not even be asked.
func notAsked() []api.Span {
	return set(9, 3, 1, 0, -1, 3, -1, -1, -1, 0, 0, top+1, top, top+1, top+1, top+1, top, 0,
		0, -1, minInt, minInt, minInt, maxInt, maxInt, minInt, maxInt, maxInt, 0, maxInt, minInt, 0)
}

// same tells whether two lists have the same spans: none and nil are the same.
func same(a, b []api.Span) bool { return slices.Equal(a, b) }
