package report_test

import (
	"testing"

	"lantern/api"
	"lantern/report"
)

// wantSegment is a report's segment.
func wantSegment(s api.Session, r api.Report) api.Segment {
	return api.Segment{Type: 8, Session: s, Report: r.Serial, Check: r.Check, Upper: r.Upper, Lower: r.Lower, Claims: r.Claims}
}

func sameSegment(a, b api.Segment) bool {
	lists := len(a.Head) + len(b.Head) + len(a.Tail) + len(b.Tail) + len(a.Data) + len(b.Data)
	return lists == 0 && same(a.Claims, b.Claims) && a.Type == b.Type && a.Session == b.Session &&
		a.Service == b.Service && a.Offset == b.Offset && a.Check == b.Check && a.Report == b.Report &&
		a.Upper == b.Upper && a.Lower == b.Lower && a.Reason == b.Reason
}

func checkSegment(t *testing.T, s api.Session, r api.Report) {
	t.Helper()
	got, e := report.Segment(s, r)
	fatalIf(t, e != api.OK || !sameSegment(got, wantSegment(s, r)), "Segment(%v, %v): %v %d", s, r, got, e)
}

func checkNoSegment(t *testing.T, s api.Session, r api.Report, want api.Errno) {
	t.Helper()
	got, e := report.Segment(s, r)
	fatalIf(t, e != want || got.Claims != nil || !sameSegment(got, api.Segment{}), "Segment(%v, %v): %v %d, not %d", s, r, got, e, want)
}

func some() api.Report {
	return api.Report{Serial: 200, Check: 1, Lower: 10, Upper: 100, Claims: spans(10, 20, 50, 100)}
}

// edges are reports that may be, at the limits of their parts.
func edges() []api.Report {
	return []api.Report{
		some(),
		{Serial: 1, Check: 0, Lower: 0, Upper: 1, Claims: spans(0, 1)},
		{Serial: top, Check: top, Lower: whole - 1, Upper: whole, Claims: spans(whole-1, whole)},
		{Serial: 1, Check: 0, Lower: 0, Upper: whole, Claims: spans(0, whole)},
		{Serial: 1, Check: 0, Lower: 0, Upper: whole, Claims: spans(5, 6)},
		{Serial: 1, Check: 0, Lower: 0, Upper: whole, Claims: comb(0, most, 2)},
		{Serial: 1, Check: 0, Lower: 1, Upper: 2 * most, Claims: comb(1, most, 2)},
		{Serial: top, Check: top, Lower: 0, Upper: whole, Claims: comb(whole-2*most+1, most, 2)},
		{Serial: 7, Check: 3, Lower: 4, Upper: 9, Claims: spans(4, 5, 6, 7, 8, 9)},
	}
}

// change is one part of a report made otherwise.
type change func(r *api.Report)

// misses are changes by which a report may not be, most of them by one.
func misses() []change {
	return []change{
		func(r *api.Report) { r.Serial = 0 },
		func(r *api.Report) { r.Serial = -1 },
		func(r *api.Report) { r.Serial = top + 1 },
		func(r *api.Report) { r.Serial = least },
		func(r *api.Report) { r.Check = -1 },
		func(r *api.Report) { r.Check = top + 1 },
		func(r *api.Report) { r.Check = least },
		func(r *api.Report) { r.Lower = -1 },
		func(r *api.Report) { r.Lower = least },
		func(r *api.Report) { r.Lower = r.Claims[0].From + 1 },
		func(r *api.Report) { r.Lower = r.Upper },
		func(r *api.Report) { r.Lower, r.Upper = r.Upper, r.Lower },
		func(r *api.Report) { r.Upper = whole + 1 },
		func(r *api.Report) { r.Upper = 1<<63 - 1 },
		func(r *api.Report) { r.Upper = r.Claims[len(r.Claims)-1].To - 1 },
		func(r *api.Report) { r.Upper = r.Lower },
		func(r *api.Report) { r.Claims = nil },
		func(r *api.Report) { r.Claims = r.Claims[:0] },
		func(r *api.Report) { r.Claims = comb(0, most+1, 2); r.Lower, r.Upper = 0, whole },
		func(r *api.Report) { r.Claims = comb(0, limit, 2); r.Lower, r.Upper = 0, whole },
		func(r *api.Report) { r.Claims = comb(0, limit+1, 2); r.Lower, r.Upper = 0, whole },
		func(r *api.Report) { r.Claims[0].From = r.Lower - 1 },
		func(r *api.Report) { r.Claims[len(r.Claims)-1].To = r.Upper + 1 },
		func(r *api.Report) { r.Claims[0].To = r.Claims[0].From },
		func(r *api.Report) { r.Claims[0].To = r.Claims[0].From - 1 },
		func(r *api.Report) { r.Claims = append(r.Claims, span(r.Claims[len(r.Claims)-1].To, r.Upper)) },
		func(r *api.Report) { r.Claims = append(r.Claims, r.Claims[0]) },
		func(r *api.Report) { r.Claims = append(r.Claims, span(r.Upper+1, r.Upper+2)) },
		func(r *api.Report) { r.Claims = append(r.Claims, span(least, 1<<63-1)) },
	}
}

func TestP53Segment(t *testing.T) {
	for _, s := range append(sessions(), api.Session{Origin: 1, Number: 1}) {
		for _, r := range edges() {
			checkSegment(t, s, r)
		}
	}
}

func TestP53SegmentErrors(t *testing.T) {
	for i := range edges() {
		for _, change := range misses() {
			r := edges()[i]
			change(&r)
			checkNoSegment(t, home, r, api.ErrReportScope)
			for _, s := range noSession() {
				checkNoSegment(t, s, r, api.ErrArg)
			}
		}
		for _, s := range noSession() {
			checkNoSegment(t, s, edges()[i], api.ErrArg)
		}
	}
	checkNoSegment(t, home, api.Report{}, api.ErrReportScope)
}

// inBounds tells, as the chapter has it, whether a report of one or two claims may be, but for its numbers.
func inBounds(lower, upper int, l []api.Span) bool {
	if lower < 0 || lower >= upper || upper > whole {
		return false
	}
	for i, c := range l {
		if c.From < 0 || c.From >= c.To || c.From < lower || c.To > upper || i > 0 && c.From <= l[i-1].To {
			return false
		}
	}
	return true
}

// All bounds and all claims of small numbers, right and wrong.
func TestP53SegmentSmall(t *testing.T) {
	check := func(lower, upper int, l []api.Span) {
		r := api.Report{Serial: 7, Check: 3, Lower: lower, Upper: upper, Claims: l}
		if inBounds(lower, upper, l) {
			checkSegment(t, home, r)
		} else {
			checkNoSegment(t, home, r, api.ErrReportScope)
		}
	}
	for lower := -1; lower <= 4; lower++ {
		for upper := -1; upper <= 5; upper++ {
			for from := -1; from <= 5; from++ {
				for to := -1; to <= 6; to++ {
					check(lower, upper, spans(from, to))
					check(lower, upper, spans(0, 1, from, to))
					check(lower, upper, spans(from, to, 3, 4))
					check(lower+whole-4, upper+whole-4, moved(spans(from, to), whole-4))
				}
			}
		}
	}
}

func TestP53Of(t *testing.T) {
	exts := []api.Ext{{Tag: 255, Data: make([]byte, api.MaxExt)}, {}}
	for _, s := range sessions() {
		for _, r := range edges() {
			for _, x := range [][2][]api.Ext{{nil, nil}, {exts, nil}, {nil, exts}, {exts, exts}} {
				seg := wantSegment(s, r)
				seg.Head, seg.Tail = x[0], x[1]
				got, e := report.Of(seg)
				fatalIf(t, e != api.OK || !sameReport(got, r), "Of(%v): %v %d", seg, got, e)
			}
		}
	}
}

func checkNoReport(t *testing.T, x api.Segment, want api.Errno) {
	t.Helper()
	got, e := report.Of(x)
	fatalIf(t, e != want || got.Claims != nil || !sameReport(got, api.Report{}), "Of(%v): %v %d, not %d", x, got, e, want)
}

func TestP53OfErrors(t *testing.T) {
	block := api.Segment{Session: home, Service: 7, Offset: 3, Data: []byte{9}}
	asking := block
	asking.Check = 1
	grant := api.Segment{Session: home, Report: 1}
	bare := api.Segment{Session: home}
	for _, x := range []struct {
		kind int
		of   api.Segment
	}{{0, block}, {1, asking}, {2, asking}, {3, asking}, {4, block}, {7, block}, {9, grant}, {12, bare}, {13, bare}, {14, bare}, {15, bare}} {
		x.of.Type = x.kind
		checkNoReport(t, x.of, api.ErrArg)
		x.of.Upper = 1 // what may not be is told ahead of the type
		checkNoReport(t, x.of, api.ErrSegmentField)
	}
	for _, kind := range []int{-1, 5, 6, 10, 11, 16, 24, 264, least, 1<<63 - 1} {
		x := wantSegment(home, some())
		x.Type = kind
		checkNoReport(t, x, api.ErrSegmentHead)
	}
	for _, r := range edges() {
		for _, change := range misses() {
			r := r
			r.Claims = append([]api.Span(nil), r.Claims...)
			change(&r)
			checkNoReport(t, wantSegment(home, r), api.ErrSegmentField)
		}
	}
	for _, s := range noSession() {
		checkNoReport(t, wantSegment(s, some()), api.ErrSegmentField)
	}
}

func TestP53OfMoreThanItsFields(t *testing.T) {
	for _, change := range []func(x *api.Segment){
		func(x *api.Segment) { x.Service = 1 },
		func(x *api.Segment) { x.Offset = 1 },
		func(x *api.Segment) { x.Data = []byte{1} },
		func(x *api.Segment) { x.Reason = 1 },
		func(x *api.Segment) { x.Head = make([]api.Ext, api.MaxExts+1) },
		func(x *api.Segment) { x.Tail = make([]api.Ext, api.MaxExts+1) },
		func(x *api.Segment) { x.Tail = []api.Ext{{Tag: 256}} },
		func(x *api.Segment) { x.Head = []api.Ext{{Data: make([]byte, api.MaxExt+1)}} },
	} {
		x := wantSegment(home, some())
		change(&x)
		checkNoReport(t, x, api.ErrSegmentField)
	}
	x := wantSegment(home, edges()[7])
	for range api.MaxExts {
		x.Head = append(x.Head, api.Ext{Data: make([]byte, api.MaxExt)})
	}
	x.Tail = x.Head
	checkNoReport(t, x, api.ErrBig)
}
