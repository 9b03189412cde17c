package claims_test

import (
	"slices"
	"testing"

	"lantern/api"
	"lantern/claims"
)

func union(t *testing.T, a, b []api.Span) []api.Span {
	t.Helper()
	l, e := claims.Union(a, b)
	if e != api.OK {
		t.Fatalf("Union(%v, %v): %d", head(a), head(b), e)
	}
	return l
}

func TestP39UnionAnyWay(t *testing.T) {
	sets := all(top-5, 5)
	for _, a := range sets {
		if !same(union(t, a, a), a) {
			t.Errorf("Union of %v and itself", a)
		}
		for _, b := range sets {
			ab := union(t, a, b)
			if !same(ab, union(t, b, a)) {
				t.Errorf("Union of %v and %v goes one way round only", a, b)
			}
			for _, c := range sets {
				if !same(union(t, ab, c), union(t, a, union(t, b, c))) {
					t.Errorf("Union of %v, %v and %v hangs on the grouping", a, b, c)
				}
			}
		}
	}
	full := comb(0, limit, 1)
	if !same(union(t, full, full), full) {
		t.Error("Union of MaxSpans spans and themselves")
	}
}

func TestP39OfASetAndASpan(t *testing.T) {
	for _, base := range bases() {
		for _, l := range all(base, width) {
			for _, s := range asked(base, width) {
				checkLaws(t, l, s)
			}
		}
	}
	full := comb(1, limit, 1)
	for _, s := range []api.Span{span(0, 2*limit), span(1, top), span(2, 3), span(7, 7), span(0, 0), span(0, 1), span(top-1, top), span(0, 2*limit+1)} {
		checkLaws(t, full, s)
	}
}

// checkLaws holds the calls against each other, for a set and a span that may be asked.
func checkLaws(t *testing.T, l []api.Span, s api.Span) {
	t.Helper()
	checkAddLaws(t, l, s)
	gaps, e := claims.Gaps(l, s)
	within, f := claims.Within(l, s)
	if f != api.OK || claims.Covers(l, s) != (e == api.OK && len(gaps) == 0) {
		t.Errorf("Covers(%v, %v) against Gaps: %v", head(l), s, head(gaps))
	}
	checkPieces(t, l, s)
	if e != api.OK {
		return
	}
	if claims.Size(within)+claims.Size(gaps) != s.To-s.From {
		t.Errorf("Sizes of Within and Gaps (%v, %v)", head(l), s)
	}
	var whole []api.Span
	if s.From < s.To {
		whole = []api.Span{s}
	}
	if !same(union(t, within, gaps), whole) {
		t.Errorf("Union of Within and Gaps (%v, %v)", head(l), s)
	}
	again, e := claims.Gaps(gaps, s)
	if e == api.OK && !same(again, within) { // P3.10
		t.Errorf("Gaps in the gaps (%v, %v): %v", head(l), s, head(again))
	}
}

func checkAddLaws(t *testing.T, l []api.Span, s api.Span) {
	t.Helper()
	added, n, e := claims.Add(l, s)
	joined, f := claims.Union(l, []api.Span{s})
	if e != f || !same(added, joined) {
		t.Errorf("Add(%v, %v): %v %d, and Union: %v %d", head(l), s, head(added), e, head(joined), f)
	}
	if e == api.OK && claims.Size(added) != claims.Size(l)+n {
		t.Errorf("Add(%v, %v): %d are new", head(l), s, n)
	}
}

func checkPieces(t *testing.T, l []api.Span, s api.Span) {
	t.Helper()
	at, first, before := s.From, true, false
	var had, missed []api.Span
	for x, in := range claims.Walk(l, s) {
		if x.From != at || x.To <= x.From || !first && in == before {
			t.Errorf("Walk(%v, %v): a break at %v", head(l), s, x)
		}
		at, first, before = x.To, false, in
		if in {
			had = append(had, x)
		} else {
			missed = append(missed, x)
		}
	}
	if at != s.To {
		t.Errorf("Walk(%v, %v) ends at %d", head(l), s, at)
	}
	checkWithin(t, l, s, had, api.OK)
	missed, e := answered(missed)
	checkGaps(t, l, s, missed, e)
}

func TestP39DealtListsAreTheSet(t *testing.T) {
	for _, l := range append(all(0, width), comb(0, limit, 1)) {
		for most := 1; most < 6; most++ {
			lists, e := claims.Deal(l, most)
			if e != api.OK || !same(slices.Concat(lists...), l) {
				t.Errorf("Deal(%v, %d): %v %d", head(l), most, lists, e)
			}
		}
	}
}

func TestP310GapsOfGaps(t *testing.T) {
	for _, base := range bases() {
		for _, l := range all(base, width) {
			for _, s := range asked(base, width) {
				gaps, _ := claims.Gaps(l, s)
				within, _ := claims.Within(l, s)
				checkGaps(t, gaps, s, within, api.OK)
			}
		}
	}
	full := comb(2, limit, 1)
	gaps, e := claims.Gaps(full, span(2, 2*limit+2))
	if e != api.OK {
		t.Fatal("Gaps:", e)
	}
	checkGaps(t, gaps, span(2, 2*limit+2), full, api.OK)
}

// FuzzSets holds every call against the bytes one by one: two sets and a span, of a window at one end of the numbers.
func FuzzSets(f *testing.F) {
	f.Add([]byte{0x0f, 0xf0}, []byte{0x55}, byte(3), byte(12), false)
	f.Add([]byte{}, []byte{0xff, 0xff, 0xff}, byte(0), byte(24), true)
	f.Fuzz(func(t *testing.T, p, q []byte, from, to byte, high bool) {
		const wide = 256
		base := 0
		if high {
			base = top - wide
		}
		a, b := drawn(base, wide, p), drawn(base, wide, q)
		s := span(base+int(min(from, to)), base+int(max(from, to)))
		want := painted(base, wide, s)
		checkUnion(t, a.spans(), b.spans(), both(a, b, or).spans(), 0)
		checkGaps(t, a.spans(), s, both(a, want, not).spans(), 0)
		checkWithin(t, a.spans(), s, both(a, want, and).spans(), 0)
		checkWalk(t, a.spans(), s, walked(a, s))
		checkSize(t, a.spans(), a.count())
		checkLaws(t, b.spans(), s)
	})
}

// drawn is a window in which the bytes are there whose bits are set.
func drawn(base, width int, bits []byte) window {
	w := window{base, make([]bool, width)}
	for i := range min(width, 8*len(bits)) {
		w.has[i] = bits[i/8]>>(i%8)&1 == 1
	}
	return w
}
