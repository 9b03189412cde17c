package export_test

import (
	"testing"

	"lantern/api"
)

// Late of what never was a checkpoint, at every edge of numbers.
func TestP123NoCheckpoint(t *testing.T) {
	for _, o := range []opening{usual(200, 200).from(7), usual(300, 200).from(7).reopened()} {
		b := begin(t, o)
		b.goOut(t, b.first)
		for _, check := range []int{minInt, -1, 0, 1, 6, 7, 9, top, maxInt} {
			b.wants(t, lates(check), api.Moves{})
		}
	}
	b := begin(t, usual(200, 0))
	b.goOut(t, b.first)
	for check := range 5 {
		b.wants(t, lates(check), api.Moves{})
	}
}

// A checkpoint is sent again for Retry times, each time as it was, and then it is Over, as often as that is asked.
func TestP123Retry(t *testing.T) {
	for _, retry := range []int{1, 2, 3, 99, 100} {
		for _, o := range []opening{usual(200, 200), usual(300, 200).every(1), usual(300, 200).reopened()} {
			b := begin(t, o.rules(retry, 2))
			b.goOut(t, b.first)
			x := b.m.segment(b.m.marks[len(b.m.marks)-1].piece)
			for range retry {
				b.wants(t, lates(x.Check), api.Moves{Send: []api.Segment{x}})
				b.wants(t, lates(x.Check), api.Moves{})
				b.wants(t, sends(x), api.Moves{Start: []int{x.Check}})
			}
			for range 3 {
				b.wants(t, lates(x.Check), api.Moves{Over: true, Why: api.ByRetry})
			}
			fatalIf(t, b.Pending() != len(b.m.marks) || b.Whole() || !b.Out() || len(b.Have()) != 0, "Over changed something")
		}
	}
}

// Each checkpoint is counted for itself.
func TestP123EachForItself(t *testing.T) {
	b := begin(t, usual(200, 200).every(1).rules(2, 2))
	b.goOut(t, b.first)
	for range 2 {
		b.wants(t, lates(1), api.Moves{Send: b.first[:1]})
		b.wants(t, sends(b.first[0]), api.Moves{Start: []int{1}})
	}
	b.wants(t, lates(1), api.Moves{Over: true, Why: api.ByRetry})
	b.wants(t, lates(3), api.Moves{Send: b.first[2:]})
	b.wants(t, lates(2), api.Moves{Send: b.first[1:2]})
	b.wants(t, lates(1), api.Moves{Over: true, Why: api.ByRetry})
}

// Behind Over it goes on, if a report comes after all: the next checkpoint has its own tries.
func TestP123BehindOver(t *testing.T) {
	b := begin(t, usual(200, 200))
	b.goOut(t, b.first)
	b.does(t, lates(1))
	b.goOut(t, b.first[2:])
	b.wants(t, lates(1), api.Moves{Over: true, Why: api.ByRetry})
	got := b.does(t, reports(told(9, 1, 200, span(0, 190))))
	fatalIf(t, len(got.Send) != 1 || got.Send[0].Check != 2, "a batch: %v", got)
	b.wants(t, lates(1), api.Moves{})
	b.wants(t, lates(2), api.Moves{})
	b.goOut(t, got.Send)
	b.wants(t, lates(2), api.Moves{Send: got.Send})
	b.goOut(t, got.Send)
	b.wants(t, lates(2), api.Moves{Over: true, Why: api.ByRetry})
}

// A checkpoint that is answered is never late, whether it waits or not.
func TestP123Answered(t *testing.T) {
	for _, out := range []bool{false, true} {
		b := begin(t, usual(200, 200).every(1))
		if out {
			b.goOut(t, b.first)
		}
		got := b.does(t, reports(told(9, 2, 142, span(0, 142))))
		fatalIf(t, len(got.Stop) != 1 || b.Pending() != 2, "Report: %v", got)
		b.wants(t, lates(2), api.Moves{})
		b.wants(t, sends(b.first[1]), api.Moves{})
		b.wants(t, lates(2), api.Moves{})
	}
}

// What Late sends bears the block's bytes, with the number of the report that asked for it.
func TestP123OfABatch(t *testing.T) {
	b := begin(t, usual(200, 200).rules(3, 2).from(126))
	b.goOut(t, b.first)
	got := b.does(t, reports(told(9, 127, 200, span(0, 20), span(60, 150))))
	want := b.m.segments([]api.Piece{{Type: api.RedPlain, From: 20, To: 60}, {Type: api.RedLast, From: 150, To: 200, Check: 128, Report: 9}})
	fatalIf(t, !same(got, api.Moves{Stop: []int{127}, Send: want}), "a batch: %v", got)
	b.goOut(t, got.Send)
	b.wants(t, lates(128), api.Moves{Send: want[1:]})
}

// Behind Finish nothing is late.
func TestP123BehindFinish(t *testing.T) {
	b := begin(t, usual(200, 200).every(1))
	b.goOut(t, b.first)
	b.does(t, finishes())
	for check := range 5 {
		b.wants(t, lates(check), api.Moves{})
	}
}
