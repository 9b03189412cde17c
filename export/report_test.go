package export_test

import (
	"slices"
	"testing"

	"lantern/api"
)

// started is an export of which all first pieces went out.
func started(t *testing.T, o opening) *both {
	t.Helper()
	b := begin(t, o)
	b.goOut(t, b.first)
	return b
}

// A report that brings all is Done, from wherever it comes, and nothing has changed: neither what is known, nor which checkpoint is open, nor which report was read.
func TestP124All(t *testing.T) {
	for _, r := range []api.Report{
		told(9, 1, 200, span(0, 200)),
		told(9, 0, 200, span(0, 200)),
		told(9, 77, 201, span(0, 201)),
		told(top, top, most, span(0, most)),
		told(1, 0, 300, span(0, 200), span(201, 300)),
	} {
		b := started(t, usual(200, 200))
		for range 3 {
			b.wants(t, reports(r), api.Moves{Done: true})
			fatalIf(t, len(b.Have()) != 0 || b.Pending() != 1 || b.Whole(), "Done changed something")
		}
		b.wants(t, lates(1), api.Moves{Send: b.first[2:]})
		// The serial was not read: a report of that one is.
		got := b.does(t, reports(told(r.Serial, 0, 200, span(0, 100))))
		fatalIf(t, !slices.Equal(b.Have(), []api.Span{span(0, 100)}), "Have: %v, behind %v", b.Have(), got)
	}
}

// Done comes of what is known and what is claimed together.
func TestP124AllTogether(t *testing.T) {
	b := started(t, usual(200, 200).rules(1, 9))
	b.does(t, reports(told(1, 0, 50, span(10, 50))))
	b.does(t, reports(told(2, 0, 200, span(60, 199))))
	b.wants(t, reports(told(3, 0, 60, span(0, 10), span(50, 60))), api.Moves{Send: nil})
	fatalIf(t, !slices.Equal(b.Have(), []api.Span{span(0, 199)}), "Have: %v", b.Have())
	b.wants(t, reports(api.Report{Serial: 4, Lower: 199, Upper: 200, Claims: []api.Span{span(199, 200)}}), api.Moves{Done: true})
}

// Claims that leave a single byte out are not Done.
func TestP124AllButOne(t *testing.T) {
	for at := range 200 {
		b := started(t, usual(200, 200))
		l := []api.Span{span(0, at), span(at+1, 200)}
		l = slices.DeleteFunc(l, func(s api.Span) bool { return s.From == s.To })
		got := b.does(t, reports(told(9, 1, 200, l...)))
		fatalIf(t, got.Done || len(got.Send) != 1 || got.Send[0].Offset != at || len(got.Send[0].Data) != 1, "without %d: %v", at, got)
	}
}

// What a report may not be changes nothing, and its serial is not read.
func TestP124NoReport(t *testing.T) {
	b := started(t, usual(200, 200).rules(1, 1))
	many := make([]api.Span, 1001)
	for i := range many {
		many[i] = span(2*i, 2*i+1)
	}
	for _, r := range []api.Report{
		{},
		{Serial: 9, Upper: 200},
		told(0, 1, 200, span(0, 200)),
		told(-1, 1, 200, span(0, 200)),
		told(minInt, 1, 200, span(0, 200)),
		told(top+1, 1, 200, span(0, 200)),
		told(9, -1, 200, span(0, 200)),
		told(9, top+1, 200, span(0, 200)),
		told(9, 1, most+1, span(0, 200)),
		told(9, 1, 199, span(0, 200)),
		told(9, 1, 0, span(0, 200)),
		told(9, 1, 200, span(0, 100), span(100, 200)),
		told(9, 1, 200, span(0, 100), span(50, 200)),
		told(9, 1, 200, span(100, 200), span(0, 99)),
		told(9, 1, 200, span(0, 0)),
		told(9, 1, 200, span(-1, 200)),
		told(9, 1, 200, span(200, 0)),
		told(9, 1, maxInt, span(0, maxInt)),
		told(9, 1, 3000, many...),
		{Serial: 9, Check: 1, Lower: -1, Upper: 200, Claims: []api.Span{span(0, 200)}},
		{Serial: 9, Check: 1, Lower: 1, Upper: 200, Claims: []api.Span{span(0, 200)}},
		{Serial: 9, Check: 1, Lower: 200, Upper: 200, Claims: []api.Span{span(200, 201)}},
		{Serial: 9, Check: 1, Lower: 201, Upper: 200, Claims: []api.Span{span(0, 200)}},
	} {
		for range 3 {
			b.wants(t, reports(r), api.Moves{})
		}
	}
	fatalIf(t, len(b.Have()) != 0 || b.Pending() != 1, "it changed: %v", b.Have())
	got := b.does(t, reports(told(9, 1, 200, span(0, 199))))
	fatalIf(t, len(got.Stop) != 1, "the serial was read: %v", got)
	// A thousand claims are as many as may be.
	o := usual(3000, 3000)
	b = started(t, o)
	b.does(t, reports(told(9, 0, 3000, many[:1000]...)))
	fatalIf(t, !slices.Equal(b.Have(), many[:1000]), "Have of 1000 claims: %v", b.Have())
}

// Without a red part reports mean nothing; nor behind Finish.
func TestP124NothingRed(t *testing.T) {
	for _, b := range []*both{started(t, usual(200, 0)), started(t, usual(200, 200))} {
		b.does(t, finishes())
		for i, r := range []api.Report{told(9, 1, 200, span(0, 200)), told(10, 0, 100, span(0, 1)), told(11, 0, 100, span(0, 1)), told(12, 0, 100, span(0, 1))} {
			b.wants(t, reports(r), api.Moves{})
			fatalIf(t, b.Pending() != 0, "%d: Pending: %d", i, b.Pending())
		}
	}
}

// A serial is read once, whatever the second report says; what it says even then is not Done.
func TestP124SerialWasRead(t *testing.T) {
	b := started(t, usual(200, 200).rules(1, 1))
	b.does(t, reports(told(9, 0, 200, span(0, 100))))
	for range 4 {
		b.wants(t, reports(told(9, 0, 200, span(0, 100))), api.Moves{})
		b.wants(t, reports(told(9, 1, 200, span(0, 200))), api.Moves{})
		b.wants(t, reports(told(9, 1, 200, span(150, 200))), api.Moves{})
	}
	fatalIf(t, b.Pending() != 2 || !slices.Equal(b.Have(), []api.Span{span(0, 100)}), "it changed: %v", b.Have())
	// Even one that brought nothing was read, and counts but once.
	b.does(t, reports(told(10, 0, 100, span(0, 100))))
	b.wants(t, reports(told(10, 0, 100, span(0, 100))), api.Moves{})
	b.wants(t, reports(told(10, 0, 200, span(0, 200))), api.Moves{})
	b.wants(t, reports(told(11, 0, 100, span(0, 100))), api.Moves{Over: true, Why: api.ByCycles})
	b.wants(t, reports(told(11, 0, 200, span(0, 200))), api.Moves{Done: true})
}

// Claims beyond Red count as far as Red; those behind it not at all.
func TestP124BeyondRed(t *testing.T) {
	b := started(t, usual(400, 200).rules(1, 2))
	got := b.does(t, reports(told(9, 1, 400, span(10, 50), span(150, 300), span(301, 400))))
	want := b.m.segments([]api.Piece{{Type: api.RedPlain, From: 0, To: 10}, {Type: api.RedPlain, From: 50, To: 123}, {Type: api.RedCheck, From: 123, To: 150, Check: 2, Report: 9}})
	fatalIf(t, !same(got, api.Moves{Stop: []int{1}, Send: want}), "a batch: %v", got)
	fatalIf(t, !slices.Equal(b.Have(), []api.Span{span(10, 50), span(150, 200)}), "Have: %v", b.Have())
	// Bytes that are behind Red alone are nothing new.
	b.goOut(t, got.Send)
	far := func(serial int) api.Report {
		return api.Report{Serial: serial, Lower: 200, Upper: 401, Claims: []api.Span{span(200, 201), span(300, 401)}}
	}
	b.wants(t, reports(far(10)), api.Moves{})
	b.wants(t, reports(far(11)), api.Moves{})
	b.wants(t, reports(far(12)), api.Moves{Over: true, Why: api.ByCycles})
	fatalIf(t, !slices.Equal(b.Have(), []api.Span{span(10, 50), span(150, 200)}), "Have: %v", b.Have())
}

// A report whose bounds lie behind Red, and that closes the last checkpoint: all that is missing is sent.
func TestP124BoundsBehindRed(t *testing.T) {
	for _, lower := range []int{200, 201, 300, most - 1} {
		b := started(t, usual(300, 200))
		got := b.does(t, reports(api.Report{Serial: 9, Check: 1, Lower: lower, Upper: most, Claims: []api.Span{span(lower, most)}}))
		want := b.m.segments([]api.Piece{{Type: api.RedPlain, From: 0, To: 73}, {Type: api.RedPlain, From: 73, To: 146}, {Type: api.RedEnd, From: 146, To: 200, Check: 2, Report: 9}})
		fatalIf(t, !same(got, api.Moves{Stop: []int{1}, Send: want}), "a batch: %v", got)
	}
}

// ones are spans of one byte, every other one, from a byte on.
func ones(from, n int) (l []api.Span) {
	for i := range n {
		l = append(l, span(from+2*i, from+2*i+1))
	}
	return l
}

// Claims with which no set can be bring nothing at all; those with which there are as many spans as may be do.
func TestP124NoSet(t *testing.T) {
	b := started(t, usual(9000, 9000).rules(1, 3))
	b.does(t, reports(told(1, 0, 9000, ones(0, 1000)...)))
	b.does(t, reports(told(2, 0, 9000, ones(2000, 999)...)))
	b.does(t, reports(told(3, 0, 9000, span(5000, 6000))))
	full := append(ones(0, 1999), span(5000, 6000))
	fatalIf(t, !slices.Equal(b.Have(), full), "Have: %d spans", len(b.Have()))
	// It joins two spans, and has two more.
	b.does(t, reports(told(4, 0, 9000, span(1, 2), span(7000, 7001), span(8000, 8001))))
	fatalIf(t, !slices.Equal(b.Have(), full), "more than a set has: %d spans", len(b.Have()))
	b.does(t, reports(told(5, 0, 9000, span(7000, 7001))))
	fatalIf(t, !slices.Equal(b.Have(), full), "more than a set has: %d spans", len(b.Have()))
	// It joins two, and has one more.
	b.does(t, reports(told(6, 0, 9000, span(1, 2), span(7000, 7001))))
	fatalIf(t, len(b.Have()) != 2000 || b.Have()[0] != span(0, 3), "as many as a set has: %v", b.Have()[:3])
	b.does(t, reports(told(7, 0, 9000, span(8000, 8001))))
	b.wants(t, reports(told(8, 0, 9000, span(8000, 8001))), api.Moves{Over: true, Why: api.ByCycles})
	// What makes fewer spans of them comes, even now.
	b.does(t, reports(told(8, 0, 9000, span(3000, 8001))))
	fatalIf(t, b.Have()[len(b.Have())-1] != span(3000, 8001), "Have: %v", b.Have()[1400:])
	b.wants(t, reports(told(9, 0, 9000, span(0, 9000))), api.Moves{Done: true})
}

// A report that brings nothing, as no set could be, closes its checkpoint all the same, and the gaps within its bounds are sent.
func TestP124NoSetAnswers(t *testing.T) {
	b := started(t, usual(9000, 9000))
	b.goOut(t, b.does(t, reports(told(1, 0, 9000, ones(0, 1000)...))).Send)
	b.goOut(t, b.does(t, reports(told(2, 0, 9000, ones(2000, 1000)...))).Send)
	check := b.m.marks[0].piece.Check
	fatalIf(t, len(b.Have()) != 2000, "Have: %d spans", len(b.Have()))
	got := b.does(t, reports(api.Report{Serial: 4, Check: check, Lower: 8000, Upper: 8010, Claims: []api.Span{span(8001, 8010)}}))
	fatalIf(t, !slices.Equal(got.Stop, []int{check}) || len(got.Send) != 1 || got.Send[0].Offset != 8000 || len(got.Send[0].Data) != 10, "%v", got)
}

// Of more gaps than a batch can have the first ones are sent.
func TestP124MostGaps(t *testing.T) {
	b := started(t, usual(9000, 9000))
	b.does(t, reports(told(1, 0, 2, span(1, 2))))
	b.goOut(t, b.m.segments([]api.Piece{b.m.marks[1].piece}))
	b.does(t, reports(api.Report{Serial: 2, Lower: 3, Upper: 2002, Claims: ones(3, 1000)}))
	b.goOut(t, b.m.segments([]api.Piece{b.m.marks[2].piece}))
	got := b.does(t, reports(told(3, 0, 9000, ones(2003, 999)...)))
	fatalIf(t, len(b.Have()) != 2000 || len(got.Send) != 2000, "%d spans, %d segments", len(b.Have()), len(got.Send))
	last := got.Send[1999]
	fatalIf(t, last.Offset != 3998 || len(last.Data) != 1 || last.Type != api.RedCheck || last.Report != 3, "the last one: %v", last)
}

// A report stops the timer of the checkpoint that it names, if that is open, and of no other one.
func TestP124Checks(t *testing.T) {
	for _, check := range []int{0, 1, 2, 3, 4, top} {
		b := started(t, usual(200, 200).every(1))
		want := api.Moves{}
		if check >= 1 && check <= 3 {
			want.Stop = []int{check}
		}
		got := b.does(t, reports(told(9, check, 71, span(0, 71))))
		fatalIf(t, !same(got, want) || b.Pending() != 3-len(want.Stop), "Check %d: %v", check, got)
		// It is answered now, or there is none.
		got = b.does(t, reports(told(10, check, 72, span(0, 72))))
		fatalIf(t, !same(got, api.Moves{}) || b.Pending() != 3-len(want.Stop), "Check %d again: %v", check, got)
	}
}

// While a checkpoint that is open waits, nothing is sent again; as soon as none does, the next report sends what is missing within its bounds.
func TestP124Waits(t *testing.T) {
	b := begin(t, usual(200, 200).every(1).rules(1, 9))
	b.wants(t, sends(b.first[0]), api.Moves{Start: []int{1}})
	b.wants(t, reports(told(1, 1, 71, span(0, 10))), api.Moves{Stop: []int{1}})
	b.wants(t, sends(b.first[1]), api.Moves{Start: []int{2}})
	b.wants(t, reports(told(2, 2, 142, span(0, 20))), api.Moves{Stop: []int{2}})
	b.wants(t, sends(b.first[2]), api.Moves{Start: []int{3}, Sent: true})
	// Nothing waits; the checkpoint 3 is open.
	batch := b.m.segments([]api.Piece{{Type: api.RedCheck, From: 30, To: 40, Check: 4, Report: 3}})
	b.wants(t, reports(told(3, 2, 40, span(0, 30))), api.Moves{Send: batch})
	fatalIf(t, b.Pending() != 2, "Pending: %d", b.Pending())
	// Now 4 waits.
	b.wants(t, reports(told(4, 3, 200, span(0, 31))), api.Moves{Stop: []int{3}})
	b.wants(t, reports(told(5, 3, 200, span(0, 32))), api.Moves{})
	// A report that closes the one that waits finds none that does.
	got := b.does(t, reports(told(6, 4, 50, span(0, 33))))
	want := b.m.segments([]api.Piece{{Type: api.RedCheck, From: 33, To: 50, Check: 5, Report: 6}})
	fatalIf(t, !same(got, api.Moves{Stop: []int{4}, Send: want}), "a batch: %v", got)
}

// A checkpoint that is late waits again: till it has gone out nothing is sent.
func TestP124WaitsAgain(t *testing.T) {
	b := started(t, usual(200, 200).every(1).rules(2, 9))
	b.wants(t, lates(2), api.Moves{Send: b.first[1:2]})
	b.wants(t, reports(told(1, 1, 71, span(0, 10))), api.Moves{Stop: []int{1}})
	b.wants(t, sends(b.first[1]), api.Moves{Start: []int{2}})
	want := b.m.segments([]api.Piece{{Type: api.RedCheck, From: 11, To: 71, Check: 4, Report: 2}})
	b.wants(t, reports(told(2, 1, 71, span(0, 11))), api.Moves{Send: want})
}

// Where nothing is missing within the bounds, but elsewhere: nothing is sent while a checkpoint is open, whether it waits or not; all that is missing, if none is.
func TestP124NothingMissingWithin(t *testing.T) {
	// One that is open waits.
	b := begin(t, usual(200, 200).every(1))
	b.goOut(t, b.first[:2])
	b.wants(t, reports(told(1, 1, 71, span(0, 71))), api.Moves{Stop: []int{1}})
	b.wants(t, reports(told(2, 2, 71, span(0, 71))), api.Moves{Stop: []int{2}})
	// It waits, and is named: none is open behind that.
	want := b.m.segments([]api.Piece{{Type: api.RedPlain, From: 71, To: 144}, {Type: api.RedLast, From: 144, To: 200, Check: 4, Report: 3}})
	b.wants(t, reports(told(3, 3, 71, span(0, 71))), api.Moves{Stop: []int{3}, Send: want})
	// One that is open does not wait.
	b = started(t, usual(200, 200).every(1))
	b.wants(t, reports(told(1, 1, 71, span(0, 71))), api.Moves{Stop: []int{1}})
	b.wants(t, reports(told(2, 2, 71, span(0, 71))), api.Moves{Stop: []int{2}})
	b.wants(t, reports(api.Report{Serial: 3, Check: 3, Lower: 150, Upper: 160, Claims: []api.Span{span(150, 160)}}), api.Moves{
		Stop: []int{3},
		Send: b.m.segments([]api.Piece{{Type: api.RedPlain, From: 71, To: 144}, {Type: api.RedPlain, From: 144, To: 150}, {Type: api.RedLast, From: 160, To: 200, Check: 4, Report: 3}}),
	})
}

// spansOf are the bytes of segments that are put in their order.
func spansOf(l []api.Segment) (out []api.Span) {
	for _, x := range l {
		if n := len(out); n > 0 && out[n-1].To == x.Offset {
			out[n-1].To += len(x.Data)
		} else {
			out = append(out, span(x.Offset, x.Offset+len(x.Data)))
		}
	}
	return out
}

// The gaps are those within the report's bounds alone, as long as there are some.
func TestP124Bounds(t *testing.T) {
	for _, x := range []struct {
		lower, upper int
		claim        api.Span
		want         []api.Span
	}{
		{0, 200, span(0, 1), []api.Span{span(30, 140), span(150, 200)}},
		{0, 200, span(160, 161), []api.Span{span(30, 140), span(150, 160), span(161, 200)}},
		{0, 31, span(5, 6), []api.Span{span(30, 31)}},
		{29, 31, span(29, 30), []api.Span{span(30, 31)}},
		{20, 100, span(40, 50), []api.Span{span(30, 40), span(50, 100)}},
		{100, 150, span(100, 101), []api.Span{span(101, 140)}},
		{100, 138, span(137, 138), []api.Span{span(100, 137)}},
		{138, 141, span(138, 139), []api.Span{span(139, 140)}},
		{140, 200, span(199, 200), []api.Span{span(150, 199)}},
		{140, most, span(140, 141), []api.Span{span(150, 200)}},
		{199, most, span(300, 301), []api.Span{span(199, 200)}},
		// Nothing is missing within: all that is.
		{139, 140, span(139, 140), []api.Span{span(30, 139), span(150, 200)}},
		{0, 30, span(0, 1), []api.Span{span(30, 140), span(150, 200)}},
		{140, 150, span(140, 141), []api.Span{span(30, 140), span(150, 200)}},
		{200, 201, span(200, 201), []api.Span{span(30, 140), span(150, 200)}},
	} {
		b := started(t, usual(200, 200))
		b.wants(t, reports(told(1, 0, 30, span(0, 30))), api.Moves{})
		b.wants(t, reports(api.Report{Serial: 2, Lower: 140, Upper: 150, Claims: []api.Span{span(140, 150)}}), api.Moves{})
		got := b.does(t, reports(api.Report{Serial: 4, Check: 1, Lower: x.lower, Upper: x.upper, Claims: []api.Span{x.claim}}))
		fatalIf(t, !slices.Equal(spansOf(got.Send), x.want) || !slices.Equal(got.Stop, []int{1}), "%v: %v", x, spansOf(got.Send))
	}
}

// For Cycles reports nothing new may come, with reports between that do bring something; then it is Over.
func TestP124Cycles(t *testing.T) {
	for _, cycles := range []int{1, 2, 5, 1000} {
		b := started(t, usual(3000, 3000).rules(1, cycles))
		serial := 0
		say := func(n int) api.Moves {
			serial++
			return b.does(t, reports(told(serial, 0, n, span(0, n))))
		}
		say(5)
		for i := range cycles {
			got := say(5)
			fatalIf(t, got.Over, "Cycles %d: Over at %d", cycles, i)
			if i%3 == 0 {
				say(6 + i)
			}
		}
		have := b.Have()
		for range 3 {
			got := say(3)
			fatalIf(t, !same(got, api.Moves{Over: true, Why: api.ByCycles}), "Cycles %d: %v", cycles, got)
		}
		fatalIf(t, !slices.Equal(b.Have(), have) || b.Whole(), "Over changed something")
		// What is new is read even now, and Over stays what it is for what is not.
		say(2999)
		fatalIf(t, !slices.Equal(b.Have(), []api.Span{span(0, 2999)}), "Have: %v", b.Have())
		got := say(1)
		fatalIf(t, !got.Over, "Cycles %d: %v", cycles, got)
		got = say(3000)
		fatalIf(t, !same(got, api.Moves{Done: true}), "Cycles %d: %v", cycles, got)
	}
}

// Over of a report changes nothing: its checkpoint stays open, its serial is not read.
func TestP124OverChangesNothing(t *testing.T) {
	b := started(t, usual(200, 200).every(1).rules(1, 1))
	b.does(t, reports(told(1, 0, 71, span(0, 71))))
	b.does(t, reports(told(2, 0, 71, span(0, 71))))
	b.wants(t, reports(told(3, 2, 142, span(0, 71))), api.Moves{Over: true, Why: api.ByCycles})
	fatalIf(t, b.Pending() != 3, "Pending: %d", b.Pending())
	want := b.m.segments([]api.Piece{{Type: api.RedCheck, From: 100, To: 142, Check: 4, Report: 3}})
	b.wants(t, reports(told(3, 2, 142, span(0, 100))), api.Moves{Stop: []int{2}, Send: want})
}

// Check numbers of batches rise from the first pieces' on, at every base; of an export that was opened again from base + 2 on.
func TestP124CheckNumbers(t *testing.T) {
	for _, base := range []int{0, 126, 1 << 24, top - 1<<24} {
		for every := range 3 {
			for _, again := range []bool{false, true} {
				o := usual(600, 500).every(every).from(base).rules(1, 1000)
				next := base + 2
				if again {
					o = o.reopened()
				} else {
					for _, x := range o.first() {
						next = max(next, x.Check+1)
					}
				}
				b := started(t, o)
				for i := range 200 {
					got := b.does(t, reports(told(i+1, next-1, 500, span(0, 1+i))))
					fatalIf(t, len(got.Send) == 0, "base %d: nothing", base)
					last := got.Send[len(got.Send)-1]
					fatalIf(t, last.Check != next || last.Report != i+1, "base %d: %v, not the number %d", base, last, next)
					next++
					b.goOut(t, got.Send)
				}
			}
		}
	}
}

// Each report's serial stands in the batch that it asked for, the greatest too.
func TestP124Serials(t *testing.T) {
	for _, serial := range []int{1, 127, 128, 1 << 40, top} {
		b := started(t, usual(200, 200))
		got := b.does(t, reports(told(serial, 1, 200, span(0, 20))))
		for i, x := range got.Send {
			want := 0
			if i == len(got.Send)-1 {
				want = serial
			}
			fatalIf(t, x.Report != want, "%v: not the report %d", x, want)
		}
	}
}
