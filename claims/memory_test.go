package claims_test

import (
	"slices"
	"testing"

	"lantern/api"
	"lantern/claims"
)

// lent is a list with spare room behind it, all of it filled.
func lent(l []api.Span) []api.Span {
	b := append(slices.Clone(l), make([]api.Span, 5)...)
	for i := len(l); i < len(b); i++ {
		b[i] = span(70+2*i, 71+2*i) // looks like more of the set
	}
	return b[:len(l)]
}

// room is a list with its spare room.
func room(l []api.Span) []api.Span { return l[:cap(l)] }

// scribble spoils a list and its spare room.
func scribble(l []api.Span) {
	for i := range room(l) {
		room(l)[i] = span(-7, -9)
	}
}

// calls are those that take lists; each tells all lists that it answers.
func calls() map[string]func(a, b []api.Span) [][]api.Span {
	one := func(l []api.Span, _ api.Errno) [][]api.Span { return [][]api.Span{l} }
	add := func(s api.Span) func(a, _ []api.Span) [][]api.Span {
		return func(a, _ []api.Span) [][]api.Span {
			l, _, e := claims.Add(a, s)
			return one(l, e)
		}
	}
	deal := func(most int) func(a, _ []api.Span) [][]api.Span {
		return func(a, _ []api.Span) [][]api.Span {
			l, _ := claims.Deal(a, most)
			return l
		}
	}
	of := func(call func([]api.Span, api.Span) ([]api.Span, api.Errno), s api.Span) func(a, _ []api.Span) [][]api.Span {
		return func(a, _ []api.Span) [][]api.Span { return one(call(a, s)) }
	}
	return map[string]func(a, b []api.Span) [][]api.Span{
		"Right":           func(a, _ []api.Span) [][]api.Span { claims.Right(a); return nil },
		"Size":            func(a, _ []api.Span) [][]api.Span { claims.Size(a); return nil },
		"Covers":          func(a, _ []api.Span) [][]api.Span { claims.Covers(a, span(2, 30)); return nil },
		"Walk":            func(a, _ []api.Span) [][]api.Span { ranged(claims.Walk(a, span(0, 90)), maxInt); return nil },
		"Add behind":      add(span(90, 91)),
		"Add ahead":       add(span(0, 1)),
		"Add within":      add(span(6, 7)),
		"Add that joins":  add(span(3, 21)),
		"Add at the end":  add(span(30, 40)),
		"Add of none":     add(span(5, 5)),
		"Union":           func(a, b []api.Span) [][]api.Span { return one(claims.Union(a, b)) },
		"Union with none": func(a, _ []api.Span) [][]api.Span { return one(claims.Union(a, nil)) },
		"Union of none":   func(a, _ []api.Span) [][]api.Span { return one(claims.Union(nil, a)) },
		"Union with self": func(a, _ []api.Span) [][]api.Span { return one(claims.Union(a, a)) },
		"Gaps":            of(claims.Gaps, span(0, 100)),
		"Gaps of nothing": of(claims.Gaps, span(5, 5)),
		"Within":          of(claims.Within, span(0, 100)),
		"Within a part":   of(claims.Within, span(3, 25)),
		"Deal by 1":       deal(1),
		"Deal by 2":       deal(2),
		"Deal by all":     deal(maxInt),
	}
}

func copies(l [][]api.Span) (c [][]api.Span) {
	for _, x := range l {
		c = append(c, slices.Clone(x))
	}
	return c
}

func TestP38Memory(t *testing.T) {
	for name, call := range calls() {
		for _, firsts := range [][]api.Span{set(2, 4, 6, 8, 10, 12, 20, 30), set(2, 4), nil, set(3, 3)} {
			a, b := lent(firsts), lent(set(1, 3, 12, 15, 17, 18))
			wasA, wasB := slices.Clone(room(a)), slices.Clone(room(b))
			whole := func() bool { return same(room(a), wasA) && same(room(b), wasB) }

			got, again := call(a, b), call(a, b)
			if !whole() {
				t.Errorf("%s changes what is handed in", name)
			}
			want := copies(got)
			for i := range again {
				scribble(again[i])
				if !slices.EqualFunc(again[i+1:], want[i+1:], same) {
					t.Errorf("%s: two lists of one answer share memory", name)
				}
			}
			if !whole() {
				t.Errorf("%s answers memory of what is handed in", name)
			}
			scribble(a)
			scribble(b)
			if !slices.EqualFunc(got, want, same) {
				t.Errorf("%s: an answer hangs on memory that is another's", name)
			}
		}
	}
}

// The rooms of the lists of one answer lie apart, spare room too.
func TestP38DealtListsLieApart(t *testing.T) {
	lists, _ := claims.Deal(comb(0, 100, 1), 7)
	for _, l := range lists {
		scribble(l)
		l[0] = span(1, 2)
	}
	for i, l := range lists {
		if l[0] != span(1, 2) || len(l) > 1 && l[1] != span(-7, -9) {
			t.Errorf("list %d was written by another: %v", i, l)
		}
	}
	more := append(lists[0], span(500, 501))
	if lists[1][0] != span(1, 2) || len(more) != 8 {
		t.Error("what is put behind a list goes into the next one")
	}
}

// What one Walk's reader does with a piece is not seen by the next one.
func TestP38PiecesAreValues(t *testing.T) {
	walk := claims.Walk(set(2, 4, 6, 8), span(0, 10))
	for s := range walk {
		s.From, s.To = -1, -1
	}
	if got := ranged(walk, maxInt); len(got) != 5 || got[0].span != span(0, 2) {
		t.Errorf("pieces: %v", got)
	}
}
