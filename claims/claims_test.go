package claims_test

import (
	"iter"
	"math/rand"
	"slices"
	"testing"

	"lantern/api"
	"lantern/claims"
)

// width is how many bytes the windows have in which everything is tried.
const width = 7

// bases are where these windows lie: at both ends of the numbers, and between.
func bases() []int { return []int{0, 1000, top - width} }

func TestP31RightExamples(t *testing.T) {
	for _, x := range []struct {
		l    []api.Span
		want bool
	}{
		{nil, true},
		{[]api.Span{}, true},
		{set(0, 3, 5, 9), true},
		{set(0, 3, 4, 9), true}, // one byte between is enough
		{set(0, 3, 3, 9), false},
		{set(3, 3), false},
		{set(5, 9, 0, 3), false},
		{set(-1, 3), false},
		{set(0, top), true},
		{set(0, 1, top-1, top), true},
		{set(top-1, top), true},
		{set(0, top+1), false},
		{comb(0, limit, 1), true},
		{comb(top-2*limit+1, limit, 1), true},
		{comb(0, limit+1, 1), false},
	} {
		if got := claims.Right(x.l); got != x.want {
			t.Errorf("Right of %d spans (%v): %v", len(x.l), head(x.l), got)
		}
	}
	for _, l := range noSets() {
		if claims.Right(l) {
			t.Errorf("Right of no set: %v", head(l))
		}
	}
}

// head is the first of some spans: enough to tell which list it was.
func head(l []api.Span) []api.Span { return l[:min(len(l), 8)] }

// Every list of at most three spans with small numbers, those around 0 and those around MaxNum.
func TestP31RightAll(t *testing.T) {
	for _, base := range []int{-1, top - 4} {
		var some []api.Span
		for from := base; from <= base+5; from++ {
			for to := base; to <= base+5; to++ {
				some = append(some, span(from, to))
			}
		}
		lists := [][]api.Span{nil}
		for at := 0; at < len(lists); at++ {
			l := lists[at]
			if got := claims.Right(l); got != isSet(l) {
				t.Fatalf("Right %v: %v", l, got)
			}
			if len(l) == 3 {
				continue
			}
			for _, s := range some {
				lists = append(lists, append(slices.Clone(l), s))
			}
		}
	}
}

func TestP32AddExamples(t *testing.T) {
	for _, x := range []struct {
		l    []api.Span
		s    api.Span
		want []api.Span
		n    int
		e    api.Errno
	}{
		{set(0, 3, 5, 9), span(3, 5), set(0, 9), 2, 0},
		{set(0, 3), span(7, 9), set(0, 3, 7, 9), 2, 0},
		{set(0, 9), span(2, 5), set(0, 9), 0, 0},
		{set(0, 3, 5, 9, 20, 30), span(2, 21), set(0, 30), 13, 0},
		{nil, span(0, top), set(0, top), top, 0},
		{set(0, 1, top-1, top), span(1, top-1), set(0, top), top - 2, 0},
		{set(2, 4), span(0, 2), set(0, 4), 2, 0},
		{set(2, 4), span(0, 1), set(0, 1, 2, 4), 1, 0},
		{set(2, 4), span(5, 5), nil, 0, 30},
		{set(2, 4), span(3, 3), nil, 0, 30}, // not even where it would change nothing
		{nil, span(0, 0), nil, 0, 30},
		{set(0, 3, 3, 9), span(5, 6), nil, 0, 30},
	} {
		checkAdd(t, x.l, x.s, x.want, x.n, x.e)
	}
}

func checkAdd(t *testing.T, l []api.Span, s api.Span, want []api.Span, n int, e api.Errno) {
	t.Helper()
	got, fresh, f := claims.Add(l, s)
	if !same(got, want) || fresh != n || f != e {
		t.Fatalf("Add(%v, %v): %v %d %d, not %v %d %d", head(l), s, head(got), fresh, f, head(want), n, e)
	}
}

func TestP32AddAll(t *testing.T) {
	for _, base := range bases() {
		for _, l := range all(base, width) {
			for _, s := range asked(base, width) {
				if s.From == s.To {
					checkAdd(t, l, s, nil, 0, 30)
					continue
				}
				had, new := painted(base, width, l...), painted(base, width, s)
				checkAdd(t, l, s, both(had, new, or).spans(), both(had, new, not).count(), 0)
			}
		}
	}
}

func TestP32AddWrong(t *testing.T) {
	for _, l := range noSets() {
		for _, s := range append(notAsked(), span(0, 1), span(1, 1), span(0, top)) {
			checkAdd(t, l, s, nil, 0, 30)
		}
	}
	for _, s := range notAsked() {
		checkAdd(t, nil, s, nil, 0, 30)
		checkAdd(t, set(0, 3, 5, 9), s, nil, 0, 30)
		checkAdd(t, comb(0, limit, 1), s, nil, 0, 30)
	}
}

func TestP32AddAtTheLimit(t *testing.T) {
	full := comb(1, limit, 2) // 1-2 4-5 .. 5998-5999
	end := full[limit-1].To
	checkAdd(t, full, span(end+1, end+2), nil, 0, 3)
	checkAdd(t, full, span(top-1, top), nil, 0, 3)
	checkAdd(t, comb(2, limit, 1), span(0, 1), nil, 0, 3)
	checkAdd(t, comb(0, limit, 3), span(2, 3), nil, 0, 3)

	longer := slices.Clone(full)
	longer[limit-1].To = top
	checkAdd(t, full, span(end, top), longer, top-end, 0)
	checkAdd(t, full, full[77], full, 0, 0)
	checkAdd(t, full, span(0, top), set(0, top), top-limit, 0)
	checkAdd(t, full, span(2, 4), append(set(1, 5), full[2:]...), 2, 0)
	checkAdd(t, full[1:], full[0], full, 1, 0)
	checkAdd(t, full[:limit-1], full[limit-1], full, 1, 0)
}

func TestP33UnionExamples(t *testing.T) {
	for _, x := range []struct{ a, b, want []api.Span }{
		{set(0, 3, 7, 9), set(2, 5, 9, 12), set(0, 5, 7, 12)},
		{nil, nil, nil},
		{nil, set(1, 2), set(1, 2)},
		{set(0, 1, 2, 3, 4, 5), set(1, 2, 3, 4), set(0, 5)},
		{set(0, 9), set(1, 2, 3, 4, 8, 10), set(0, 10)},
		{set(0, 1), set(top-1, top), set(0, 1, top-1, top)},
		{set(0, 1), set(1, top), set(0, top)},
	} {
		checkUnion(t, x.a, x.b, x.want, 0)
		checkUnion(t, x.b, x.a, x.want, 0)
	}
}

func checkUnion(t *testing.T, a, b, want []api.Span, e api.Errno) {
	t.Helper()
	if got, f := claims.Union(a, b); !same(got, want) || f != e {
		t.Fatalf("Union(%v, %v): %v %d, not %v %d", head(a), head(b), head(got), f, head(want), e)
	}
}

func TestP33UnionAll(t *testing.T) {
	for _, base := range bases() {
		for _, a := range all(base, width) {
			for _, b := range all(base, width) {
				checkUnion(t, a, b, both(painted(base, width, a...), painted(base, width, b...), or).spans(), 0)
			}
		}
	}
}

func TestP33UnionWrong(t *testing.T) {
	full := comb(0, limit, 3)
	for _, l := range noSets() {
		for _, other := range [][]api.Span{nil, set(0, 3), set(0, top), full, l} {
			checkUnion(t, l, other, nil, 30)
			checkUnion(t, other, l, nil, 30)
		}
	}
}

func TestP33UnionAtTheLimit(t *testing.T) {
	even, odd := comb(0, limit, 3), comb(2, limit, 3)
	merged := comb(0, 2*limit, 1)
	for _, x := range []struct{ a, b int }{{limit, 0}, {limit - 1, 1}, {limit / 2, limit / 2}, {limit - 1, 2}, {limit, 1}, {limit/2 + 1, limit / 2}, {limit, limit}} {
		a, b := even[:x.a], odd[:x.b]
		want, e := answered(both(painted(0, 9000, a...), painted(0, 9000, b...), or).spans())
		if tooMany := x.a+x.b > limit; tooMany != (e == 3) {
			t.Fatal("the model is wrong")
		}
		checkUnion(t, a, b, want, e)
		checkUnion(t, b, a, want, e)
	}
	checkUnion(t, even, even, even, 0)
	checkUnion(t, even, set(0, top), set(0, top), 0)
	checkUnion(t, merged[:limit], comb(1, limit, 1), set(0, 2*limit), 0) // 4000 spans become one
}

func TestP34GapsAndWithinExamples(t *testing.T) {
	for _, x := range []struct {
		l          []api.Span
		s          api.Span
		gaps, with []api.Span
		e          api.Errno
	}{
		{set(2, 4, 6, 8), span(0, 10), set(0, 2, 4, 6, 8, 10), set(2, 4, 6, 8), 0},
		{set(2, 4), span(2, 4), nil, set(2, 4), 0},
		{nil, span(5, 6), set(5, 6), nil, 0},
		{set(2, 4), span(9, 9), nil, nil, 0},
		{set(2, 4), span(3, 3), nil, nil, 0},
		{set(2, 4), span(0, 0), nil, nil, 0},
		{set(2, 4), span(top, top), nil, nil, 0},
		{set(2, 4, 6, 8), span(3, 7), set(4, 6), set(3, 4, 6, 7), 0},
		{set(2, 4), span(4, 9), set(4, 9), nil, 0},
		{set(2, 4), span(0, 2), set(0, 2), nil, 0},
		{set(2, 4), span(0, top), set(0, 2, 4, top), set(2, 4), 0},
		{set(0, top), span(0, top), nil, set(0, top), 0},
		{nil, span(0, top), set(0, top), nil, 0},
		{set(2, 4), span(9, 3), nil, nil, 30},
	} {
		checkGaps(t, x.l, x.s, x.gaps, x.e)
		checkWithin(t, x.l, x.s, x.with, x.e)
	}
}

func checkGaps(t *testing.T, l []api.Span, s api.Span, want []api.Span, e api.Errno) {
	t.Helper()
	if got, f := claims.Gaps(l, s); !same(got, want) || f != e {
		t.Fatalf("Gaps(%v, %v): %v %d, not %v %d", head(l), s, head(got), f, head(want), e)
	}
}

func checkWithin(t *testing.T, l []api.Span, s api.Span, want []api.Span, e api.Errno) {
	t.Helper()
	if got, f := claims.Within(l, s); !same(got, want) || f != e {
		t.Fatalf("Within(%v, %v): %v %d, not %v %d", head(l), s, head(got), f, head(want), e)
	}
}

// All that is asked of a set and a span, for every set and every span of the windows.
func TestP34P35P37All(t *testing.T) {
	for _, base := range bases() {
		for _, l := range all(base, width) {
			had := painted(base, width, l...)
			checkSize(t, l, had.count())
			for _, s := range asked(base, width) {
				want := painted(base, width, s)
				gaps, within := both(had, want, not), both(had, want, and)
				checkGaps(t, l, s, gaps.spans(), 0)
				checkWithin(t, l, s, within.spans(), 0)
				checkCovers(t, l, s, gaps.count() == 0)
				checkWalk(t, l, s, walked(had, s))
			}
		}
	}
}

func TestP34P35P37Wrong(t *testing.T) {
	wrong := func(l []api.Span, s api.Span) {
		t.Helper()
		checkGaps(t, l, s, nil, 30)
		checkWithin(t, l, s, nil, 30)
		checkCovers(t, l, s, false)
		checkWalk(t, l, s, nil)
	}
	for _, l := range noSets() {
		checkSize(t, l, 0)
		for _, s := range append(notAsked(), span(0, 1), span(1, 1), span(0, top), span(top, top)) {
			wrong(l, s)
		}
	}
	for _, s := range notAsked() {
		wrong(nil, s)
		wrong(set(0, 3, 5, 9), s)
		wrong(set(0, top), s)
		wrong(comb(1, limit, 1), s)
	}
}

func TestP34GapsAtTheLimit(t *testing.T) {
	full := comb(1, limit, 1) // 1-2 3-4 .. 3999-4000
	checkGaps(t, full, span(0, 2*limit+1), nil, 3)
	checkGaps(t, full, span(0, top), nil, 3)
	checkGaps(t, full, span(1, 2*limit+1), comb(2, limit, 1), 0)
	checkGaps(t, full, span(0, 2*limit), comb(0, limit, 1), 0)
	checkGaps(t, full[1:], span(0, 2*limit+1), append(set(0, 3), comb(4, limit-1, 1)...), 0)
	for _, s := range []api.Span{span(0, 2*limit+1), span(0, top), span(1, 2*limit)} {
		checkWithin(t, full, s, full, 0)
		checkCovers(t, full, s, false)
	}
}

func checkCovers(t *testing.T, l []api.Span, s api.Span, want bool) {
	t.Helper()
	if got := claims.Covers(l, s); got != want {
		t.Fatalf("Covers(%v, %v): %v", head(l), s, got)
	}
}

func TestP35CoversExamples(t *testing.T) {
	for _, x := range []struct {
		l    []api.Span
		s    api.Span
		want bool
	}{
		{set(2, 8), span(3, 7), true},
		{set(2, 8), span(2, 8), true},
		{set(2, 8), span(1, 8), false},
		{set(2, 8), span(2, 9), false},
		{set(2, 4, 5, 8), span(3, 7), false},
		{nil, span(5, 5), true},
		{nil, span(0, 0), true},
		{nil, span(top, top), true},
		{nil, span(0, 1), false},
		{set(2, 8), span(7, 3), false},
		{set(0, 3, 3, 9), span(1, 2), false},
		{set(0, 3, 3, 9), span(1, 1), false},
		{set(0, top), span(0, top), true},
		{set(1, top), span(0, top), false},
	} {
		checkCovers(t, x.l, x.s, x.want)
	}
}

func checkSize(t *testing.T, l []api.Span, want int) {
	t.Helper()
	if got := claims.Size(l); got != want {
		t.Fatalf("Size(%v): %d, not %d", head(l), got, want)
	}
}

func TestP35SizeExamples(t *testing.T) {
	checkSize(t, nil, 0)
	checkSize(t, set(0, 3, 5, 9), 7)
	checkSize(t, set(0, 3, 3, 9), 0)
	checkSize(t, set(0, top), top)
	checkSize(t, set(0, 5, 6, top), top-1)
	checkSize(t, comb(0, limit, 1), limit)
	checkSize(t, comb(0, limit+1, 1), 0)
}

func checkDeal(t *testing.T, l []api.Span, most int, want [][]api.Span, e api.Errno) {
	t.Helper()
	got, f := claims.Deal(l, most)
	if !slices.EqualFunc(got, want, same) || f != e {
		t.Fatalf("Deal(%v, %d): %d lists, %d, not %d lists, %d", head(l), most, len(got), f, len(want), e)
	}
}

func TestP36DealExamples(t *testing.T) {
	three := set(0, 1, 2, 3, 4, 5)
	for _, x := range []struct {
		l    []api.Span
		most int
		want [][]api.Span
		e    api.Errno
	}{
		{three, 2, [][]api.Span{set(0, 1, 2, 3), set(4, 5)}, 0},
		{three, 1, [][]api.Span{set(0, 1), set(2, 3), set(4, 5)}, 0},
		{three, 3, [][]api.Span{three}, 0},
		{three, 4, [][]api.Span{three}, 0},
		{three, maxInt, [][]api.Span{three}, 0},
		{nil, 1, nil, 0},
		{[]api.Span{}, maxInt, nil, 0},
		{set(0, 1), 0, nil, 1},
		{nil, 0, nil, 1},
		{set(0, 1), -1, nil, 1},
		{set(0, 1), minInt, nil, 1},
		{set(3, 3), 0, nil, 30},
		{set(3, 3), 1, nil, 30},
	} {
		checkDeal(t, x.l, x.most, x.want, x.e)
	}
	for _, l := range noSets() {
		for _, most := range []int{minInt, -1, 0, 1, 2, limit, maxInt} {
			checkDeal(t, l, most, nil, 30)
		}
	}
}

func TestP36DealCounts(t *testing.T) {
	for _, count := range []int{1, 2, 5, 6, 7, limit - 1, limit} {
		l := comb(3, count, 2)
		for _, most := range []int{1, 2, 3, 6, 7, 999, 1000, 1001, limit - 1, limit, limit + 1} {
			var want [][]api.Span
			for i, s := range l {
				if i%most == 0 {
					want = append(want, nil)
				}
				want[len(want)-1] = append(want[len(want)-1], s)
			}
			checkDeal(t, l, most, want, 0)
		}
	}
}

// ranged is what a function gives to one who takes at most so many pieces.
func ranged(walk iter.Seq2[api.Span, bool], most int) (l []piece) {
	if most == 0 {
		return nil
	}
	for s, in := range walk {
		l = append(l, piece{s, in})
		if len(l) == most {
			break
		}
	}
	return l
}

func checkWalk(t *testing.T, l []api.Span, s api.Span, want []piece) {
	t.Helper()
	walk := claims.Walk(l, s)
	if walk == nil {
		t.Fatalf("Walk(%v, %v) is nil", head(l), s)
	}
	if got := ranged(walk, maxInt); !slices.Equal(got, want) {
		t.Fatalf("Walk(%v, %v): %v, not %v", head(l), s, got, want)
	}
}

func TestP37WalkExamples(t *testing.T) {
	checkWalk(t, set(2, 4, 6, 8), span(3, 7), []piece{{span(3, 4), true}, {span(4, 6), false}, {span(6, 7), true}})
	checkWalk(t, set(2, 4), span(0, top), []piece{{span(0, 2), false}, {span(2, 4), true}, {span(4, top), false}})
	checkWalk(t, set(0, top), span(0, top), []piece{{span(0, top), true}})
	checkWalk(t, nil, span(0, top), []piece{{span(0, top), false}})
	checkWalk(t, set(2, 4), span(3, 3), nil)
	checkWalk(t, set(2, 4), span(2, 2), nil)
	checkWalk(t, set(2, 4), span(9, 3), nil)
	checkWalk(t, set(0, 3, 3, 9), span(1, 2), nil)
	checkWalk(t, set(2, 4), span(top, top), nil)
}

// More pieces than a set can have spans are pieces still.
func TestP37WalkAtTheLimit(t *testing.T) {
	full := comb(1, limit, 1)
	s := span(0, 2*limit+1)
	checkWalk(t, full, s, walked(painted(0, s.To, full...), s))
	if got := ranged(claims.Walk(full, s), maxInt); len(got) != 2*limit+1 {
		t.Error("pieces:", len(got))
	}
}

func TestP37WalkEndsEarly(t *testing.T) {
	l, s := set(2, 4, 6, 8, 10, 11), span(0, 20)
	want := walked(painted(0, 20, l...), s)
	walk := claims.Walk(l, s)
	for most := range len(want) + 1 {
		if got := ranged(walk, most); !slices.Equal(got, want[:most]) {
			t.Errorf("the first %d: %v", most, got)
		}
		calls := 0
		walk(func(api.Span, bool) bool { calls++; return calls < most })
		if calls != max(most, 1) {
			t.Errorf("given %d pieces, where %d were enough", calls, most)
		}
	}
	if got := ranged(walk, maxInt); !slices.Equal(got, want) {
		t.Errorf("behind those that ended early: %v", got)
	}
}

func TestP37WalkIsOfWhatWas(t *testing.T) {
	l, s := set(2, 4, 6, 8), span(0, 10)
	want := walked(painted(0, 10, l...), s)
	walk := claims.Walk(l, s)
	l[0], l[1] = span(9, 3), span(0, 1)
	for range 3 {
		if got := ranged(walk, maxInt); !slices.Equal(got, want) {
			t.Errorf("behind a change: %v", got)
		}
	}

	l = set(2, 4, 6, 8)
	walk = claims.Walk(l, s)
	var got []piece
	for x, in := range walk {
		got = append(got, piece{x, in})
		l[0], l[1] = span(0, 1), span(3, 10)
	}
	if !slices.Equal(got, want) {
		t.Errorf("with changes on the way: %v", got)
	}

	l = set(3, 3) // no set when Walk is called, one when it is ranged over
	walk = claims.Walk(l, s)
	l[0].To = 4
	if got := ranged(walk, maxInt); got != nil {
		t.Errorf("of no set: %v", got)
	}
}

func TestP37WalksDoNotMeet(t *testing.T) {
	l, s := set(2, 4, 6, 8), span(3, 12)
	walk := claims.Walk(l, s)
	next, stop := iter.Pull2(walk)
	defer stop()
	for x, in := range walk {
		y, also, more := next()
		if x != y || in != also || !more || len(ranged(walk, maxInt)) != 4 {
			t.Errorf("one gives %v %v, the other %v %v %v", x, in, y, also, more)
		}
	}
	if _, _, more := next(); more {
		t.Error("a piece too many")
	}
}

// Sets that are too many to be tried all: some of each size, up to MaxSpans.
func TestManySpans(t *testing.T) {
	r := rand.New(rand.NewSource(3))
	const wide = 9000
	some := func() []api.Span {
		w := window{0, make([]bool, wide)}
		often := 1 + r.Intn(20)
		for i := range w.has {
			w.has[i] = i > 0 && w.has[i-1] != (r.Intn(often) == 0)
		}
		l := w.spans()
		return l[:min(len(l), limit)]
	}
	for range 150 {
		a, b := some(), some()
		s := span(r.Intn(wide/2), wide/2+r.Intn(wide/2))
		inA, inB, inS := painted(0, wide, a...), painted(0, wide, b...), painted(0, wide, s)
		want, e := answered(both(inA, inB, or).spans())
		checkUnion(t, a, b, want, e)
		if want, e = answered(both(inA, inS, or).spans()); e == 0 {
			checkAdd(t, a, s, want, both(inA, inS, not).count(), 0)
		} else {
			checkAdd(t, a, s, nil, 0, e)
		}
		want, e = answered(both(inA, inS, not).spans())
		checkGaps(t, a, s, want, e)
		checkWithin(t, a, s, both(inA, inS, and).spans(), 0)
		checkWalk(t, a, s, walked(inA, s))
		checkSize(t, a, inA.count())
		if !claims.Right(a) {
			t.Fatal("no set:", head(a))
		}
	}
}
