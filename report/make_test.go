package report_test

import (
	"testing"

	"lantern/api"
	"lantern/report"
)

func checkMake(t *testing.T, s api.Session, mtu int, have []api.Span, lower, upper, check, serial int) []api.Report {
	t.Helper()
	got, e := report.Make(s, mtu, have, lower, upper, check, serial)
	want := modelReports(s, mtu, have, lower, upper, check, serial)
	fatalIf(t, e != api.OK || !sameReports(got, want), "Make(%v, %d, %v, %d, %d, %d, %d): %d reports, %v %d, not %d, %v", s, mtu, head(have), lower, upper, check, serial, len(got), head(got), e, len(want), head(want))
	return got
}

func checkNoMake(t *testing.T, s api.Session, mtu int, have []api.Span, lower, upper, check, serial int, want api.Errno) {
	t.Helper()
	got, e := report.Make(s, mtu, have, lower, upper, check, serial)
	fatalIf(t, e != want || got != nil, "Make(%v, %d, %v, %d, %d, %d, %d): %v %d, not %d", s, mtu, head(have), lower, upper, check, serial, head(got), e, want)
}

func TestP51MakeExamples(t *testing.T) {
	forty, two := comb(0, 40, 2), spans(0, 10, 20, 30)
	for _, x := range []struct {
		mtu          int
		have         []api.Span
		lower, upper int
		want         []api.Report
	}{
		{1000, two, 0, 40, []api.Report{{Serial: 7, Check: 3, Upper: 40, Claims: two}}},
		{1000, two, 5, 25, []api.Report{{Serial: 7, Check: 3, Lower: 5, Upper: 25, Claims: spans(5, 10, 20, 25)}}},
		{1000, spans(0, 10), 20, 40, nil},
		{1000, nil, 0, 1, nil},
		{80, forty, 0, 80, []api.Report{{Serial: 7, Check: 3, Upper: 70, Claims: forty[:35]}, {Serial: 8, Check: 3, Lower: 70, Upper: 80, Claims: forty[35:]}}},
	} {
		got, e := report.Make(home, x.mtu, x.have, x.lower, x.upper, 3, 7)
		if e != api.OK || !sameReports(got, x.want) {
			t.Errorf("Make(%d, %v, %d, %d): %v %d, not %v", x.mtu, x.have, x.lower, x.upper, got, e, x.want)
		}
	}
	checkNoMake(t, home, 79, forty, 0, 80, 3, 7, api.ErrArg)
	checkNoMake(t, home, 80, spans(3, 3), 0, 80, 3, 7, api.ErrClaimsForm)
	checkNoMake(t, home, 80, nil, 5, 5, 3, 7, api.ErrReportScope)
}

// Every small set and all bounds, at both ends of a block, in reports of one and of several claims.
func TestP51SmallSets(t *testing.T) {
	far := api.Session{Origin: top, Number: top - 1} // a report of it has room for few claims
	for _, set := range smallSets(9) {
		for lower := 0; lower <= 9; lower++ {
			for upper := lower + 1; upper <= 9; upper++ {
				checkMake(t, home, 80, set, lower, upper, 0, 1)
				checkMake(t, far, 80, set, lower, upper, top, top-9)
				checkMake(t, home, 80, moved(set, whole-9), whole-9+lower, whole-9+upper, 1, top-1)
			}
		}
	}
}

// moved is a set so many bytes further on.
func moved(l []api.Span, by int) (m []api.Span) {
	for _, s := range l {
		m = append(m, span(s.From+by, s.To+by))
	}
	return m
}

func TestP51BoundsCutSpans(t *testing.T) {
	for _, set := range [][]api.Span{spans(0, top), spans(0, whole), spans(0, 1, whole-1, top), spans(whole, top), spans(whole-1, whole), spans(100, 200, 300, 400, 500, whole+1), spans(top-1, top)} {
		for _, lower := range []int{0, 1, 99, 100, 101, 199, 200, 201, 300, 450, whole - 2, whole - 1} {
			for _, upper := range []int{1, 100, 101, 200, 299, 300, 301, 501, whole - 1, whole} {
				if lower < upper {
					checkMake(t, home, 80, set, lower, upper, 3, 7)
				}
			}
		}
	}
	got, e := report.Make(home, 80, spans(0, top), 0, whole, 3, 7)
	want := api.Report{Serial: 7, Check: 3, Upper: whole, Claims: spans(0, whole)}
	fatalIf(t, e != api.OK || !sameReports(got, []api.Report{want}), "Make of everything: %v %d", got, e)
}

func TestP51MtuLimits(t *testing.T) {
	set := comb(0, 600, 2)
	for _, mtu := range []int{api.MinMtu, api.MinMtu + 1, api.MaxMtu - 1, api.MaxMtu} {
		checkMake(t, home, mtu, set, 0, 1200, 3, 7)
	}
	for _, mtu := range []int{api.MinMtu - 1, api.MaxMtu + 1, 0, -1, least, 1<<63 - 1} {
		checkNoMake(t, home, mtu, set, 0, 1200, 3, 7, api.ErrArg)
		checkNoMake(t, home, mtu, nil, 0, 1200, 3, 7, api.ErrArg)
	}
}

// Claims that just fill a report stand in one; with one byte less of room, or one claim more, there are two.
func TestP51JustFull(t *testing.T) {
	for n := 36; n <= 60; n++ {
		set := comb(0, n, 2)
		full := length(home, api.Report{Serial: 7, Check: 3, Upper: 2 * n, Claims: set})
		one := checkMake(t, home, full, set, 0, 2*n, 3, 7)
		two := checkMake(t, home, full-1, set, 0, 2*n, 3, 7)
		more := checkMake(t, home, full, comb(0, n+1, 2), 0, 2*n+2, 3, 7)
		fatalIf(t, len(one) != 1 || len(two) != 2 || len(more) != 2, "%d claims: %d, %d and %d reports", n, len(one), len(two), len(more))
		fatalIf(t, len(two[0].Claims) != n-1 || len(more[0].Claims) != n, "%d claims: %d and %d in the first", n, len(two[0].Claims), len(more[0].Claims))
	}
	for mtu := api.MinMtu; mtu < api.MinMtu+120; mtu++ {
		checkMake(t, home, mtu, comb(0, 200, 2), 0, 400, 3, 7)
		checkMake(t, home, mtu, comb(1, 120, 130), 0, whole, 3, 7)
	}
}

// One claim always fits: here everything in a report is as long as may be.
func TestP51OneClaim(t *testing.T) {
	far := api.Session{Origin: top, Number: top - 1}
	for _, set := range [][]api.Span{spans(16384, whole), spans(32768, whole-16384, whole-16383, whole), comb(0, 30, 2000)} {
		checkMake(t, far, api.MinMtu, set, 0, whole, top, top-30)
	}
}

func TestP51MaxClaims(t *testing.T) {
	for _, x := range []struct{ n, reports, first int }{{most - 1, 1, most - 1}, {most, 1, most}, {most + 1, 2, most}, {limit - 1, 2, most}, {limit, 2, most}} {
		set := comb(0, x.n, 2)
		got, e := report.Make(home, api.MaxMtu, set, 0, 2*x.n, 3, 7)
		fatalIf(t, e != api.OK || len(got) != x.reports || len(got[0].Claims) != x.first, "Make of %d: %d reports, %d", x.n, len(got), e)
		checkMake(t, home, api.MaxMtu, set, 0, 2*x.n, 3, 7)
	}
	two, _ := report.Make(home, api.MaxMtu, comb(1, limit, 2), 0, whole, 3, 7)
	if two[0].Upper != 2*most+1 || two[1].Lower != 2*most+1 || two[1].Upper != whole || two[1].Serial != 8 {
		t.Errorf("two reports of %d claims: %v, %v", most, two[0].Upper, two[1])
	}
}

// At these numbers a report grows by a byte, or more of it than its claims.
func TestP51NumbersGrow(t *testing.T) {
	grow := []int{1, 126, 127, 128, 16382, 16383, 16384, 1 << 21, top - 9}
	set := comb(0, 90, 2)
	for _, s := range sessions() {
		for _, serial := range grow {
			for _, check := range append(grow, 0, top) {
				checkMake(t, s, 80, set, 0, 180, check, serial)
			}
		}
	}
	for _, at := range []int{0, 100, 120, 127, 128, 16300, 16383, 16384, whole - 200} {
		for mtu := api.MinMtu; mtu < api.MinMtu+8; mtu++ {
			checkMake(t, home, mtu, comb(at, 100, 2), at, at+200, 3, 7)
			checkMake(t, home, mtu, comb(at, 100, 2), 0, whole, 3, 7)
			checkMake(t, home, mtu, spans(at+1, at+128, at+140, at+199), at, at+200, 3, 7)
		}
	}
	for _, upper := range []int{126, 127, 128, 129, 16383, 16384, 16385} {
		set := comb(upper-90, 45, 2)
		for mtu := api.MinMtu; mtu < api.MinMtu+60; mtu++ {
			checkMake(t, home, mtu, set, upper-90, upper, 3, 7)
			checkMake(t, home, mtu, set, 0, upper, 3, 7)
		}
	}
	// The second report's serial has a byte more than the first one's: so it has a claim less.
	for _, x := range []struct{ serial, second int }{{7, 36}, {126, 36}, {127, 35}, {128, 35}} {
		got := checkMake(t, home, 82, comb(0, 108, 2), 0, 216, 3, x.serial)
		fatalIf(t, len(got[1].Claims) != x.second, "Serials from %d on: %d claims in the second report", x.serial, len(got[1].Claims))
	}
}

func TestP51SerialPastMaxNum(t *testing.T) {
	forty := comb(0, 40, 2)
	few := api.Session{Origin: top, Number: top - 1}
	for _, s := range []api.Session{home, few} {
		n := len(modelReports(s, 80, forty, 0, 80, 3, top))
		fatalIf(t, n < 2, "%d reports", n)
		got := checkMake(t, s, 80, forty, 0, 80, 3, top-n+1)
		fatalIf(t, got[n-1].Serial != top, "the last Serial is %d", got[n-1].Serial)
		for serial := top - n + 2; serial <= top; serial++ {
			checkNoMake(t, s, 80, forty, 0, 80, 3, serial, api.ErrBig)
		}
	}
	// Where there is one report, or none, there is no second Serial.
	checkMake(t, home, 80, spans(0, 1), 0, 80, 3, top)
	checkMake(t, home, 80, nil, 0, 80, 3, top)
	checkMake(t, home, 80, forty, 80, 90, 3, top)
}

// Every argument wrong with every other: the first of the chapter's errors is told.
func TestP51MakeErrors(t *testing.T) {
	forty := comb(0, 40, 2)
	for _, s := range append(noSession(), home) {
		for _, mtu := range []int{79, 4097, 80} {
			for i, have := range append(noSet(), forty) {
				for _, b := range append(noBounds(), [2]int{0, 80}) {
					for _, check := range append(numberless(0), 3) {
						for _, serial := range append(numberless(1), top) {
							want := api.ErrBig
							switch {
							case s != home || mtu != 80:
								want = api.ErrArg
							case i < len(noSet()):
								want = api.ErrClaimsForm
							case b != [2]int{0, 80}:
								want = api.ErrReportScope
							case check != 3 || serial != top:
								want = api.ErrArg
							}
							got, e := report.Make(s, mtu, have, b[0], b[1], check, serial)
							fatalIf(t, e != want || got != nil, "Make(%v, %d, %v, %v, %d, %d): %v %d, not %d", s, mtu, head(have), b, check, serial, head(got), e, want)
						}
					}
				}
			}
		}
	}
}

// What is wrong is told where nothing is to be reported, too.
func TestP51MakeErrorsOfNothing(t *testing.T) {
	for _, s := range noSession() {
		checkNoMake(t, s, 80, nil, 0, 1, 0, 1, api.ErrArg)
	}
	for _, set := range noSet() {
		checkNoMake(t, home, 80, set, whole-1, whole, 0, 1, api.ErrClaimsForm)
	}
	for _, b := range noBounds() {
		checkNoMake(t, home, 80, nil, b[0], b[1], 0, 1, api.ErrReportScope)
	}
	for _, n := range numberless(0) {
		checkNoMake(t, home, 80, nil, 0, 1, n, 1, api.ErrArg)
	}
	for _, n := range numberless(1) {
		checkNoMake(t, home, 80, nil, 0, 1, 0, n, api.ErrArg)
	}
}

// What may be at its limits is fine.
func TestP51MakeLimits(t *testing.T) {
	for _, s := range []api.Session{{Origin: 1, Number: 1}, {Origin: top, Number: top - 1}} {
		for _, check := range []int{0, top} {
			for _, serial := range []int{1, top} {
				for _, b := range [][2]int{{0, 1}, {0, whole}, {whole - 1, whole}} {
					checkMake(t, s, api.MinMtu, spans(0, whole), b[0], b[1], check, serial)
				}
			}
		}
	}
	checkMake(t, home, api.MaxMtu, comb(0, limit, 2), 0, whole, 0, 1)
}
