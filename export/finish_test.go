package export_test

import (
	"slices"
	"testing"

	"lantern/api"
)

// Finish stops all checkpoints that are open, by rising numbers; once more: nothing.
func TestP125Finish(t *testing.T) {
	for _, o := range []opening{usual(200, 200), usual(300, 200), usual(5000, 4000).every(1), usual(5000, 5000).every(3).from(top - 1<<24), usual(300, 200).reopened(), usual(1, 1)} {
		for _, out := range []bool{false, true} {
			b := begin(t, o)
			var want []int
			for _, x := range b.first {
				if x.Check != 0 {
					want = append(want, x.Check)
				}
			}
			if out {
				b.goOut(t, b.first)
			}
			b.wants(t, finishes(), api.Moves{Stop: want})
			for range 3 {
				fatalIf(t, !b.Whole() || b.Pending() != 0 || !slices.Equal(b.Have(), []api.Span{span(0, o.p.Red)}), "%v: it is not whole", o.p)
				b.wants(t, finishes(), api.Moves{})
			}
			fatalIf(t, b.Out() != (out || o.again || o.p.Red == o.p.Size), "%v: Out: %v", o.p, b.Out())
		}
	}
}

// What was answered is not stopped once more.
func TestP125Answered(t *testing.T) {
	b := started(t, usual(200, 200).every(1))
	b.does(t, reports(told(9, 2, 71, span(0, 71))))
	b.wants(t, finishes(), api.Moves{Stop: []int{1, 3}})
	b = started(t, usual(200, 200))
	b.does(t, reports(told(9, 1, 200, span(0, 71))))
	b.wants(t, finishes(), api.Moves{Stop: []int{2}})
}

// Without a red part it is never whole.
func TestP125NoRed(t *testing.T) {
	b := begin(t, usual(200, 0))
	for range 2 {
		b.wants(t, finishes(), api.Moves{})
		fatalIf(t, b.Whole() || b.Out() || b.Pending() != 0 || len(b.Have()) != 0, "it changed")
	}
	b.goOut(t, b.first)
	b.wants(t, finishes(), api.Moves{})
	fatalIf(t, b.Whole() || !b.Out(), "Whole: %v, Out: %v", b.Whole(), b.Out())
}

// Done is no Finish: what is asked tells the same as ahead of it, till Finish.
func TestP126BehindDone(t *testing.T) {
	b := begin(t, usual(200, 200).every(1))
	b.goOut(t, b.first[:2])
	b.does(t, reports(told(9, 1, 71, span(0, 71))))
	for range 3 {
		b.wants(t, reports(told(10, 3, 200, span(71, 200))), api.Moves{Done: true})
		fatalIf(t, b.Whole() || b.Out() || b.Pending() != 2 || !slices.Equal(b.Have(), []api.Span{span(0, 71)}), "it changed")
	}
	b.wants(t, lates(2), api.Moves{Send: b.first[1:2]})
	b.wants(t, finishes(), api.Moves{Stop: []int{2, 3}})
	fatalIf(t, !b.Whole() || !b.Out(), "Whole: %v, Out: %v", b.Whole(), b.Out())
	b.wants(t, reports(told(10, 3, 200, span(71, 200))), api.Moves{})
}

// Over, by either way, changes nothing of what is asked.
func TestP126BehindOver(t *testing.T) {
	b := started(t, usual(300, 200).rules(1, 1))
	b.does(t, reports(told(1, 0, 20, span(0, 20))))
	b.does(t, reports(told(2, 0, 20, span(0, 20))))
	b.does(t, lates(1))
	b.goOut(t, b.first[2:3])
	for range 3 {
		b.wants(t, lates(1), api.Moves{Over: true, Why: api.ByRetry})
		b.wants(t, reports(told(3, 1, 20, span(0, 20))), api.Moves{Over: true, Why: api.ByCycles})
		fatalIf(t, b.Whole() || !b.Out() || b.Pending() != 1 || !slices.Equal(b.Have(), []api.Span{span(0, 20)}), "it changed")
	}
	b.wants(t, finishes(), api.Moves{Stop: []int{1}})
}

// Out behind Finish: with a green part that did not go out it is not, till that has.
func TestP126Out(t *testing.T) {
	b := begin(t, usual(250, 200))
	fatalIf(t, b.Out(), "Out of a new one")
	b.goOut(t, b.first[:3])
	fatalIf(t, b.Out(), "Out ahead of the green part")
	b.does(t, finishes())
	fatalIf(t, b.Out(), "Out of one that is whole, ahead of the green part")
	b.wants(t, sends(b.first[3]), api.Moves{Sent: true})
	fatalIf(t, !b.Out(), "Out behind all")
}
