package export_test

import (
	"testing"

	"lantern/api"
)

// Each piece goes out in its order: of checkpoints Start, of the last one Sent; then each once more.
func TestP122EachPiece(t *testing.T) {
	for _, o := range []opening{usual(200, 200), usual(300, 200), usual(300, 200).every(1), usual(300, 300).every(2).from(500), usual(200, 0), usual(1, 1), usual(1, 0), usual(201, 1)} {
		b := begin(t, o)
		for round := range 3 {
			for i, x := range b.first {
				want := api.Moves{Sent: round == 0 && i == len(b.first)-1}
				if x.Check != 0 {
					want.Start = []int{x.Check}
				}
				b.wants(t, sends(x), want)
				fatalIf(t, b.Out() != (round > 0 || want.Sent), "%v: Out behind piece %d: %v", o.p, i, b.Out())
			}
		}
	}
}

// In the other order the last one is the first: then it is out, whatever waits.
func TestP122LastFirst(t *testing.T) {
	b := begin(t, usual(250, 200).every(1))
	last := len(b.first) - 1
	b.wants(t, sends(b.first[last]), api.Moves{Sent: true})
	fatalIf(t, !b.Out(), "Out")
	for i := range last {
		b.wants(t, sends(b.first[i]), api.Moves{Start: []int{b.first[i].Check}})
	}
	b.wants(t, sends(b.first[last]), api.Moves{})
}

// Behind doubles of those ahead, and of segments that are like it but for one field, the last one is Sent.
func TestP122LastBehindDoubles(t *testing.T) {
	for _, o := range []opening{usual(200, 200), usual(300, 200), usual(200, 0)} {
		b := begin(t, o)
		last := b.first[len(b.first)-1]
		for range 3 {
			b.goOut(t, b.first[:len(b.first)-1])
		}
		for _, change := range []func(*api.Segment){
			func(x *api.Segment) { x.Session.Number++ },
			func(x *api.Segment) { x.Session.Origin++ },
			func(x *api.Segment) { x.Type ^= 1 },
			func(x *api.Segment) { x.Type = api.GreenPlain },
			func(x *api.Segment) { x.Offset++ },
			func(x *api.Segment) { x.Offset = -1 },
			func(x *api.Segment) { x.Check += 7 },
			func(x *api.Segment) { x.Check = minInt },
		} {
			x := last
			change(&x)
			got := b.does(t, sends(x))
			fatalIf(t, got.Sent || b.Out(), "%v: Sent of %v", o.p, x)
		}
		got := b.does(t, sends(last))
		fatalIf(t, !got.Sent || !b.Out(), "%v: the last one: %v", o.p, got)
		got = b.does(t, sends(last))
		fatalIf(t, got.Sent || !b.Out(), "%v: the last one again: %v", o.p, got)
	}
}

// What else a segment bears is not asked: its bytes, its service, its report, its extensions.
func TestP122NothingElseIsAsked(t *testing.T) {
	b := begin(t, usual(200, 200))
	x := api.Segment{Type: api.RedLast, Session: b.m.s, Offset: 146, Check: 1, Service: 99, Report: 98, Reason: 97, Head: []api.Ext{{Tag: 1}}}
	b.wants(t, sends(x), api.Moves{Start: []int{1}, Sent: true})
	b.wants(t, sends(api.Segment{Session: b.m.s, Check: 1}), api.Moves{Start: []int{1}})
	b.wants(t, sends(api.Segment{Session: b.m.s, Check: 1, Type: maxInt}), api.Moves{Start: []int{1}})
}

// Of another session, and of what was never put on: nothing, and a checkpoint goes on to wait.
func TestP122OfOthers(t *testing.T) {
	b := begin(t, usual(200, 200).from(40))
	for _, x := range []api.Segment{
		{},
		{Session: b.m.s},
		{Session: api.Session{Origin: 2, Number: 5}, Type: api.RedLast, Offset: 146, Check: 41},
		{Session: api.Session{Origin: 1, Number: 6}, Type: api.RedLast, Offset: 146, Check: 41},
		{Session: b.m.s, Type: api.RedLast, Offset: 146, Check: 40},
		{Session: b.m.s, Type: api.RedLast, Offset: 146, Check: 42},
		{Session: b.m.s, Type: api.ReportType, Report: 41, Upper: 9},
	} {
		b.wants(t, sends(x), api.Moves{})
		b.wants(t, lates(41), api.Moves{})
	}
	fatalIf(t, b.Out(), "Out")
}

// A checkpoint that was answered starts no timer; the last one is Sent even so.
func TestP122Answered(t *testing.T) {
	o := usual(200, 200).every(1)
	b := begin(t, o)
	b.wants(t, reports(told(9, 2, 142, span(71, 142))), api.Moves{Stop: []int{2}})
	b.wants(t, reports(told(10, 3, 200, span(142, 199))), api.Moves{Stop: []int{3}})
	b.wants(t, sends(b.first[1]), api.Moves{})
	b.wants(t, sends(b.first[2]), api.Moves{Sent: true})
	b.wants(t, sends(b.first[0]), api.Moves{Start: []int{1}})
}

// Behind Finish nothing starts; the last one of the first pieces is Sent, if it goes out then.
func TestP122BehindFinish(t *testing.T) {
	for _, o := range []opening{usual(200, 200), usual(300, 200)} {
		b := begin(t, o)
		b.does(t, finishes())
		fatalIf(t, b.Out() != (o.p.Red == o.p.Size), "%v: Out: %v", o.p, b.Out())
		for i, x := range b.first {
			b.wants(t, sends(x), api.Moves{Sent: i == len(b.first)-1})
		}
		fatalIf(t, !b.Out(), "%v: Out", o.p)
	}
}

// Opened again it is Out from the beginning, and nothing is Sent.
func TestP122Again(t *testing.T) {
	for _, o := range []opening{usual(200, 200), usual(300, 200)} {
		b := begin(t, o.reopened())
		fatalIf(t, !b.Out(), "Out")
		for range 3 {
			b.wants(t, sends(b.first[0]), api.Moves{Start: []int{1}})
			fatalIf(t, !b.Out(), "Out")
		}
		for _, x := range begin(t, o).first {
			got := b.does(t, sends(x))
			fatalIf(t, got.Sent, "Sent of %v", x)
		}
	}
}

// The last one of a batch starts its timer; it is never the last one of the first pieces.
func TestP122Batch(t *testing.T) {
	b := begin(t, usual(200, 200))
	b.does(t, sends(b.first[2]))
	got := b.does(t, reports(told(9, 1, 200, span(0, 100))))
	fatalIf(t, len(got.Send) != 2 || got.Send[1].Type != api.RedLast || got.Send[1].Check != 2, "a batch: %v", got)
	b.wants(t, sends(got.Send[0]), api.Moves{})
	b.wants(t, sends(got.Send[1]), api.Moves{Start: []int{2}})
	b = begin(t, usual(200, 200))
	b.does(t, sends(api.Segment{Session: b.m.s, Check: 1}))
	got = b.does(t, reports(told(9, 1, 200, span(0, 146))))
	fatalIf(t, len(got.Send) != 1 || got.Send[0].Offset != 146 || got.Send[0].Check != 2, "a batch: %v", got)
	b.wants(t, sends(got.Send[0]), api.Moves{Start: []int{2}})
	fatalIf(t, b.Out(), "the last one of the first pieces did not go out")
	b.wants(t, sends(b.first[2]), api.Moves{Sent: true})
}
