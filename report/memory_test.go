package report_test

import (
	"slices"
	"testing"

	"lantern/api"
	"lantern/report"
)

// lent is a list with spare room behind it, all of it filled.
func lent(l []api.Span) []api.Span {
	b := slices.Clone(l)
	for range 9 {
		b = append(b, span(70, 71))
	}
	return b[:len(l)]
}

// roomy is a list with its spare room.
func roomy[T any](l []T) []T { return l[:cap(l)] }

// scribble spoils a list and its spare room.
func scribble(l []api.Span) {
	for i := range roomy(l) {
		roomy(l)[i] = span(-7, -9)
	}
}

func TestP54MakeTakesAndAnswers(t *testing.T) {
	for _, set := range [][]api.Span{nil, spans(0, 10), spans(0, 10, 20, 30), comb(0, 40, 2), comb(0, 500, 2), spans(3, 3)} {
		have := lent(set)
		was := slices.Clone(roomy(have))
		got, e := report.Make(home, 80, have, 0, 2000, 3, 7)
		other, _ := report.Make(home, 80, have, 0, 2000, 3, 7)
		want := modelReports(home, 80, set, 0, 2000, 3, 7)
		for i := range roomy(other) {
			scribble(roomy(other)[i].Claims)
			roomy(other)[i] = api.Report{Serial: -7}
		}
		fatalIf(t, !same(roomy(have), was), "Make(%v): what is handed in was changed, or is what is answered", head(set))
		scribble(have)
		fatalIf(t, e == api.OK && !sameReports(got, want), "Make(%v): its answer hangs on memory that is another's", head(set))
	}
}

// No two reports of one answer share memory, nor spare room.
func TestP54ReportsShareNothing(t *testing.T) {
	for _, n := range []int{36, 40, 200, 500} {
		got, _ := report.Make(home, 80, comb(0, n, 2), 0, 2*n, 3, 7)
		want := modelReports(home, 80, comb(0, n, 2), 0, 2*n, 3, 7)
		fatalIf(t, len(got) < 2, "%d claims are in %d reports", n, len(got))
		for i := range got {
			scribble(got[i].Claims)
			fatalIf(t, !sameReports(got[i+1:], want[i+1:]), "%d claims: report %d shares memory with one behind it", n, i)
		}
		got, _ = report.Make(home, 80, comb(0, n, 2), 0, 2*n, 3, 7)
		for i := len(got) - 1; i >= 0; i-- {
			scribble(got[i].Claims)
			fatalIf(t, !sameReports(got[:i], want[:i]), "%d claims: report %d shares memory with one ahead of it", n, i)
		}
	}
}

func TestP54MissingTakesAndAnswers(t *testing.T) {
	for _, set := range [][]api.Span{nil, spans(0, 10), spans(2, 10, 20, 30), comb(0, 500, 2), comb(1, limit, 2), spans(3, 3)} {
		have := lent(set)
		was := slices.Clone(roomy(have))
		got, e := report.Missing(have, 0, 5000)
		other, _ := report.Missing(have, 0, 5000)
		scribble(other)
		fatalIf(t, !same(roomy(have), was), "Missing(%v): what is handed in was changed, or is what is answered", head(set))
		scribble(have)
		fatalIf(t, e == api.OK && !same(got, modelMissing(set, 0, 5000)), "Missing(%v): its answer hangs on memory that is another's", head(set))
	}
}

func TestP54SegmentAndOfTakeAndAnswer(t *testing.T) {
	for i, was := range edges() {
		r := was
		r.Claims = lent(was.Claims)
		spare := slices.Clone(roomy(r.Claims))
		x, _ := report.Segment(home, r)
		other, _ := report.Segment(home, r)
		scribble(other.Claims)
		fatalIf(t, !same(roomy(r.Claims), spare), "Segment of %d: what is handed in was changed, or is what is answered", i)
		scribble(r.Claims)
		fatalIf(t, !sameSegment(x, wantSegment(home, was)), "Segment of %d: its answer hangs on memory that is another's", i)

		x.Claims = lent(was.Claims)
		got, _ := report.Of(x)
		another, _ := report.Of(x)
		scribble(another.Claims)
		fatalIf(t, !same(roomy(x.Claims), spare), "Of %d: what is handed in was changed, or is what is answered", i)
		scribble(x.Claims)
		fatalIf(t, !sameReport(got, was), "Of %d: its answer hangs on memory that is another's", i)
	}
}

// What is refused is not changed either.
func TestP54RefusedIsLeftAlone(t *testing.T) {
	for _, change := range misses() {
		r := some()
		change(&r)
		r.Claims = lent(r.Claims)
		was := slices.Clone(roomy(r.Claims))
		report.Segment(home, r)
		report.Of(wantSegment(home, r))
		report.Make(home, 80, r.Claims, 0, 80, 3, 7)
		report.Missing(r.Claims, 0, 80)
		fatalIf(t, !same(roomy(r.Claims), was), "%v: what is handed in was changed", head(r.Claims))
	}
}
