package report_test

import (
	"math/rand"
	"slices"
	"testing"

	"lantern/api"
	"lantern/claims"
	"lantern/report"
	"lantern/segment"
)

// asked is what Make is asked.
type asked struct {
	s                                api.Session
	mtu, lower, upper, check, serial int
	have                             []api.Span
}

func (a asked) reports(t *testing.T) []api.Report {
	t.Helper()
	l, e := report.Make(a.s, a.mtu, a.have, a.lower, a.upper, a.check, a.serial)
	fatalIf(t, e != api.OK, "Make(%v, %d, %v, %d, %d): %d", a.s, a.mtu, head(a.have), a.lower, a.upper, e)
	return l
}

// lawful are questions of which the laws are tried.
func lawful() (l []asked) {
	r := rand.New(rand.NewSource(5))
	for i := range 400 {
		a := asked{s: sessions()[i%3], mtu: api.MinMtu + r.Intn(300)}
		a.have = anySet(r, []int{3, 60, 400}[r.Intn(3)], []int{2, 20, 200}[r.Intn(3)])
		a.lower = r.Intn(3000)
		a.upper = min(whole, a.lower+1+r.Intn(40000))
		a.check, a.serial = anyNumber(r, 0), anyNumber(r, 1)
		l = append(l, a)
	}
	for _, mtu := range []int{api.MinMtu, api.MaxMtu} {
		l = append(l, asked{home, mtu, 0, whole, 0, 1, comb(0, limit, 2)}, asked{home, mtu, 0, whole, 0, 127, comb(3, limit, 32)})
	}
	return l
}

// printed is how many bytes a report's segment has, as chapter 2 prints it.
func printed(t *testing.T, s api.Session, r api.Report) int {
	t.Helper()
	x, e := report.Segment(s, r)
	fatalIf(t, e != api.OK, "Segment(%v, %v): %d", s, r, e)
	b, e := segment.Print(x)
	fatalIf(t, e != api.OK, "Print(%v): %d", x, e)
	return len(b)
}

// withNext is a report with the first claim of the report behind it.
func withNext(r, behind api.Report) api.Report {
	r.Claims = append(slices.Clone(r.Claims), behind.Claims[0])
	r.Upper = behind.Upper
	if len(behind.Claims) > 1 {
		r.Upper = behind.Claims[1].From
	}
	return r
}

func TestP55SideBySide(t *testing.T) {
	for _, a := range lawful() {
		l := a.reports(t)
		at := a.lower
		var told []api.Span
		for i, r := range l {
			fatalIf(t, r.Lower != at || r.Serial != a.serial+i || r.Check != a.check, "report %d: %v", i, r)
			at = r.Upper
			told = append(told, r.Claims...)
			fatalIf(t, !same(runs(a.have, r.Lower, r.Upper, true), r.Claims), "report %d claims other bytes between its bounds", i)
			fatalIf(t, printed(t, a.s, r) > a.mtu, "report %d has %d bytes", i, printed(t, a.s, r))
			if i < len(l)-1 && len(r.Claims) < most {
				fatalIf(t, printed(t, a.s, withNext(r, l[i+1])) <= a.mtu, "report %d has room for one claim more", i)
			}
		}
		fatalIf(t, len(l) > 0 && at != a.upper, "the last report ends at %d, not at %d", at, a.upper)
		fatalIf(t, !same(told, runs(a.have, a.lower, a.upper, true)), "Make(%v, %d, %d) claims %v", head(a.have), a.lower, a.upper, head(told))
	}
}

// Who knows some bytes, and hears all reports in any order, some twice, misses what have misses and they did not know.
func TestP56WhoHearsAllMissesTheSame(t *testing.T) {
	r := rand.New(rand.NewSource(6))
	for _, a := range lawful() {
		if len(a.have) > 500 {
			continue
		}
		l := a.reports(t)
		want, e := report.Missing(a.have, a.lower, a.upper)
		fatalIf(t, e != api.OK, "Missing: %d", e)
		r.Shuffle(len(l), func(i, j int) { l[i], l[j] = l[j], l[i] })
		known, _ := claims.Within(a.have, span(a.lower, (a.lower+a.upper)/2))
		for _, x := range append(l, l[:len(l)/2]...) {
			known, e = claims.Union(known, x.Claims)
			fatalIf(t, e != api.OK, "Union: %d", e)
		}
		got, e := report.Missing(known, a.lower, a.upper)
		fatalIf(t, e != api.OK || !same(got, want), "behind the reports of %v, %d to %d, is missing: %v %d", head(a.have), a.lower, a.upper, head(got), e)
	}
}

// What is missing and what is there are all bytes between.
func TestP52MissingIsTheRest(t *testing.T) {
	r := rand.New(rand.NewSource(8))
	for range 300 {
		have := anySet(r, 100, []int{2, 30}[r.Intn(2)])
		lower, upper := r.Intn(500), r.Intn(3000)
		checkMissing(t, have, lower, upper)
		gaps, _ := report.Missing(have, lower, upper)
		back, _ := report.Missing(gaps, lower, upper)
		fatalIf(t, !same(back, runs(have, lower, upper, true)), "Missing of what is missing of %v: %v", head(have), head(back))
	}
}

func TestP57OfSegment(t *testing.T) {
	for _, r := range edges() {
		checkThereAndBack(t, home, r)
	}
	for _, a := range lawful() {
		for _, r := range a.reports(t) {
			checkThereAndBack(t, a.s, r)
		}
	}
}

// checkThereAndBack holds Of against Segment, by way of the bytes too.
func checkThereAndBack(t *testing.T, s api.Session, r api.Report) {
	t.Helper()
	x, e := report.Segment(s, r)
	fatalIf(t, e != api.OK, "Segment(%v): %d", r, e)
	b, e := segment.Print(x)
	fatalIf(t, e != api.OK, "Print(%v): %d", x, e)
	read, e := segment.Parse(b)
	fatalIf(t, e != api.OK, "Parse(%v): %d", b, e)
	for _, x := range []api.Segment{x, read} {
		got, e := report.Of(x)
		fatalIf(t, e != api.OK || !sameReport(got, r), "Of(Segment(%v)): %v %d", r, got, e)
	}
}

// FuzzReports holds Make and Missing against the chapter: of the bytes, each two are a gap and a span behind it.
func FuzzReports(f *testing.F) {
	f.Add(1, 5, 80, 0, 80, 3, 7, []byte{0, 0, 0, 0, 3, 9}, 1)
	f.Add(top, top-1, 80, 0, whole, top, top-2, []byte{255, 255, 255, 255, 0, 255}, 90)
	f.Fuzz(func(t *testing.T, origin, number, mtu, lower, upper, check, serial int, steps []byte, wide int) {
		var have []api.Span
		if wide < 1 || wide > 200 {
			return
		}
		for at := 0; len(steps) >= 2 && len(have) < limit; steps = steps[2:] {
			from := at + wide*int(steps[0]) + min(1, at)
			at = from + 1 + wide*int(steps[1])
			have = append(have, span(from, at))
		}
		s := api.Session{Origin: origin, Number: number}
		l, e := report.Make(s, mtu, have, lower, upper, check, serial)
		if e != api.OK {
			return
		}
		fatalIf(t, !sameReports(l, modelReports(s, mtu, have, lower, upper, check, serial)), "Make(%v, %d, %v, %d, %d, %d, %d): %v", s, mtu, have, lower, upper, check, serial, l)
		checkMissing(t, have, lower, upper)
		for _, r := range l {
			checkThereAndBack(t, s, r)
		}
	})
}
