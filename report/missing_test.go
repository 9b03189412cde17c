package report_test

import (
	"testing"

	"lantern/api"
	"lantern/report"
)

func checkMissing(t *testing.T, have []api.Span, lower, upper int) {
	t.Helper()
	got, e := report.Missing(have, lower, upper)
	want := modelMissing(have, lower, upper)
	fatalIf(t, e != api.OK || !same(got, want), "Missing(%v, %d, %d): %d spans, %v %d, not %d, %v", head(have), lower, upper, len(got), head(got), e, len(want), head(want))
}

func TestP52MissingExamples(t *testing.T) {
	for _, x := range []struct {
		have         []api.Span
		lower, upper int
		want         []api.Span
	}{
		{spans(0, 10, 20, 30), 5, 40, spans(10, 20, 30, 40)},
		{nil, 0, 9, spans(0, 9)},
		{spans(0, 10), 3, 3, nil},
		{spans(0, 10), 9, 3, nil},
		{nil, whole, 0, nil},
		{nil, whole, whole, nil},
		{nil, 0, 0, nil},
		{nil, 0, whole, spans(0, whole)},
		{spans(0, top), 0, whole, nil},
		{spans(whole, top), whole - 1, whole, spans(whole-1, whole)},
	} {
		got, e := report.Missing(x.have, x.lower, x.upper)
		if e != api.OK || !same(got, x.want) {
			t.Errorf("Missing(%v, %d, %d): %v %d, not %v", x.have, x.lower, x.upper, got, e, x.want)
		}
	}
	if got, e := report.Missing(nil, 0, 65537); e != api.ErrReportScope || got != nil {
		t.Errorf("Missing up to 65537: %v %d", got, e)
	}
}

func TestP52SmallSets(t *testing.T) {
	for _, set := range smallSets(9) {
		for lower := 0; lower <= 10; lower++ {
			for upper := 0; upper <= 10; upper++ {
				checkMissing(t, set, lower, upper)
			}
		}
		for lower := whole - 10; lower <= whole; lower++ {
			for upper := whole - 10; upper <= whole; upper++ {
				checkMissing(t, moved(set, whole-8), lower, upper)
			}
		}
	}
}

func TestP52MoreThanMaxSpans(t *testing.T) {
	row := comb(1, limit, 2) // between and around them lie 2001 gaps
	for _, x := range []struct{ lower, upper, n int }{{0, 4001, limit}, {0, whole, limit}, {0, 4000, limit}, {0, 3999, limit}, {0, 3998, limit - 1}, {1, whole, limit}, {2, whole, limit}, {3, whole, limit - 1}} {
		got, e := report.Missing(row, x.lower, x.upper)
		fatalIf(t, e != api.OK || len(got) != x.n, "Missing of [%d, %d): %d spans, %d", x.lower, x.upper, len(got), e)
		checkMissing(t, row, x.lower, x.upper)
	}
	got, _ := report.Missing(row, 0, 4001)
	if got[0] != span(0, 1) || got[limit-1] != span(3998, 3999) {
		t.Errorf("Missing of 2001 gaps: from %v to %v", got[0], got[limit-1])
	}
	checkMissing(t, comb(2, limit-1, 2), 0, whole)
	checkMissing(t, comb(0, limit, 30), 0, whole)
}

func TestP52MissingErrors(t *testing.T) {
	bad := []int{-1, whole + 1, top, top + 1, 1<<63 - 1, least}
	fine := []int{0, 1, whole}
	for i, have := range append(noSet(), nil, spans(0, 3), comb(0, limit, 2)) {
		for j, lower := range append(bad, fine...) {
			for k, upper := range append(bad, fine...) {
				want := api.OK
				switch {
				case i < len(noSet()):
					want = api.ErrClaimsForm
				case j < len(bad) || k < len(bad):
					want = api.ErrReportScope
				}
				got, e := report.Missing(have, lower, upper)
				fatalIf(t, e != want || want != api.OK && got != nil, "Missing(%v, %d, %d): %v %d, not %d", head(have), lower, upper, head(got), e, want)
			}
		}
	}
}
