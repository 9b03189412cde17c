package engine_test

import (
	"testing"

	"lantern/api"
)

// An acknowledgement of a report that is there stops its timer; of none that is there: nothing; without an import: Late.
func TestP144Ack(t *testing.T) {
	s := session(2, 1)
	b := begin(t, usual())
	quiet(t, b, 2, acks(s, epoch+1), "Late")
	b.gets(t, 2, red(api.RedCheck, s, 0, 5, 1))
	b.tick(t)
	fatalIf(t, b.e.Sight().Timers != 2, "Timers: %d", b.e.Sight().Timers)
	for _, serial := range []int{1, epoch, epoch + 2, top} {
		b.untouched(t, func() { told(t, b.gets(t, 2, acks(s, serial))) }, nil)
	}
	before := len(b.records())
	told(t, b.gets(t, 2, acks(s, epoch+1)))
	fatalIf(t, b.e.Sight().Timers != 1 || b.e.Sight().Imports != 1, "Sight: %+v", b.e.Sight())
	b.untouched(t, func() { told(t, b.gets(t, 2, acks(s, epoch+1))) }, nil)
	_, l := b.ticks(t, 20)
	sent(t, l)
	b.adds(t, before)
}

// All of it is acknowledged, and its length known: it is shut. That is not safe; and what was told is owed still.
func TestP144AckShuts(t *testing.T) {
	s := session(2, 1)
	for _, ticked := range []bool{false, true} {
		b := begin(t, usual())
		b.gets(t, 2, red(api.RedLast, s, 2, 5, 1))
		b.gets(t, 2, red(api.RedCheck, s, 0, 2, 2, epoch+1))
		if ticked {
			b.tick(t)
		}
		told(t, b.gets(t, 2, acks(s, epoch+1)))
		fatalIf(t, b.e.Sight().Imports != 1, "it is not there")
		before := len(b.records())
		told(t, b.gets(t, 2, acks(s, epoch+2)))
		b.adds(t, before, recShut(s))
		fatalIf(t, b.loose() == 0, "RecShut is safe")
		fatalIf(t, b.e.Sight().Imports+b.e.Sight().Timers+b.e.Sight().Waiting != 0, "Sight: %+v", b.e.Sight())
		quiet(t, b, 2, acks(s, epoch+2), "Late")
		b.tick(t)
		if ticked {
			b.adds(t, before+1)
		} else {
			b.adds(t, before+1, recHeard(s))
		}
		for _, x := range every(s)[:6] {
			quiet(t, b, 2, x, "Late")
		}
	}
}

// The sender cancels: an import that is not delivered is gone, one that is delivered is shut, of none it is acknowledged alone.
func TestP144CancelOut(t *testing.T) {
	s := session(2, 1)
	for reason := range 6 {
		b := begin(t, usual())
		b.gets(t, 2, red(api.RedCheck, s, 0, 5, 1))
		before := len(b.records())
		told(t, b.gets(t, 2, calls(12, s, reason)), noteGone(s, 7, reason))
		b.adds(t, before, recGone(s, reason))
		fatalIf(t, b.loose() != 0, "it is not safe")
		fatalIf(t, b.e.Sight().Imports+b.e.Sight().Timers != 0, "Sight: %+v", b.e.Sight())
		told(t, b.gets(t, 2, calls(12, s, reason))) // once more
		_, l := b.tick(t)
		sent(t, l, calls(13, s, 0), calls(13, s, 0)) // and no cancel of its own
		b.adds(t, before+1, recHeard(s))
		quiet(t, b, 2, red(api.RedCheck, s, 0, 5, 1), "Late")

		b = begin(t, usual())
		b.gets(t, 2, red(api.RedEnd, s, 0, 5, 1))
		before = len(b.records())
		told(t, b.gets(t, 2, calls(12, s, reason)))
		b.adds(t, before, recShut(s))
		fatalIf(t, b.e.Sight().Imports+b.e.Sight().Timers != 0, "Sight: %+v", b.e.Sight())
		_, l = b.tick(t)
		sent(t, l, calls(13, s, 0))

		b = begin(t, usual())
		told(t, b.gets(t, 2, calls(12, s, reason)))
		told(t, b.gets(t, 2, red(api.RedPlain, s, 0, 5)), noteIn(api.NoteStart, s, 7, nil)) // nothing of it is kept
	}
	b := begin(t, usual())
	b.gets(t, 2, serves(red(api.RedPlain, s, 0, 5), 9))
	told(t, b.gets(t, 2, calls(12, s, 0)))
	_, l := b.tick(t)
	sent(t, l, calls(13, s, 0), calls(14, s, 1)) // what is told of it by us is under way still
	fatalIf(t, b.e.Sight().Timers != 1, "Timers: %d", b.e.Sight().Timers)
}

// The receiver cancels: an export with a red part that is not through is off; another one is closed; of none it is acknowledged alone.
func TestP144CancelIn(t *testing.T) {
	s := session(1, 1)
	c := with(usual(), func(c *api.Config) { c.Contacts[0].Rate = 1 })
	for reason := range 6 {
		for ticks := range 2 {
			b := begin(t, c)
			submitted(t, b, 2, 7, wholeRow[:300], 200, 1)
			b.ticks(t, ticks)
			before := len(b.records())
			told(t, b.gets(t, 2, calls(14, s, reason)), note(api.NoteOff, s, reason))
			b.adds(t, before, recEnd(1, 1+reason))
			fatalIf(t, b.loose() != 0, "it is not safe")
			fatalIf(t, b.e.Sight().Exports+b.e.Sight().Timers != 0 || b.e.Sight().Waiting != 1, "Sight: %+v", b.e.Sight())
			told(t, b.gets(t, 2, calls(14, s, reason)))
			_, l := b.ticks(t, 3)
			sent(t, l, calls(15, s, 0), calls(15, s, 0)) // and no cancel of its own
			b.adds(t, before+1, recTold(1))
		}
		b := begin(t, c)
		submitted(t, b, 2, 7, wholeRow[:300], 0, 1)
		b.untouchedButWaiting(t, func() { told(t, b.gets(t, 2, calls(14, s, reason))) })
		_, l := b.ticks(t, 3)
		sent(t, l, calls(15, s, 0))

		b = begin(t, c)
		submitted(t, b, 2, 7, wholeRow[:300], 20, 1)
		b.gets(t, 2, tells(s, 1, 0, 0, 20, 0, 20))
		b.untouchedButWaiting(t, func() { told(t, b.gets(t, 2, calls(14, s, reason))) })
		_, l = b.ticks(t, 3)
		sent(t, l, acks(s, 1), calls(15, s, 0))
	}
	b := on(wide, usual()).puts(t, recBoot(1, 1), recNext(2))
	b.boot(t, 0)
	told(t, b.gets(t, 2, calls(14, s, 0)))
	_, l := b.tick(t)
	sent(t, l, calls(15, s, 0))
}

// untouchedButWaiting wants that an export is closed without a record.
func (b *both) untouchedButWaiting(t *testing.T, do func()) {
	t.Helper()
	before := len(b.records())
	do()
	b.adds(t, before)
	fatalIf(t, b.e.Sight().Exports+b.e.Sight().Timers != 0, "Sight: %+v", b.e.Sight())
}

// A cancel that is acknowledged: it is no longer under way, whether it went out, waits, or waits again.
func TestP144CancelOk(t *testing.T) {
	ours, theirs := session(1, 1), session(2, 1)
	for ticks := range 25 {
		b := begin(t, usual())
		quiet(t, b, 2, calls(15, theirs, 0), "Late")
		submitted(t, b, 2, 7, wholeRow[:5], 5, 1)
		quiet(t, b, 2, calls(13, ours, 0), "Late") // an export is there, and no cancel
		b.cancel(t, ours)
		b.gets(t, 2, red(api.RedPlain, theirs, 0, 5))
		quiet(t, b, 2, calls(15, theirs, 0), "Late")
		b.cancel(t, theirs)
		b.ticks(t, ticks)
		before := len(b.records())
		b.counted(t, func() { told(t, b.gets(t, 2, calls(13, ours, 0))) }, nil)
		fatalIf(t, b.e.Sight().Timers+b.e.Sight().Waiting != 1, "Sight: %+v", b.e.Sight()) // the other one is under way still
		b.counted(t, func() { told(t, b.gets(t, 2, calls(15, theirs, 0))) }, nil)
		b.adds(t, before)
		fatalIf(t, b.e.Sight().Timers+b.e.Sight().Waiting != 0, "Sight: %+v", b.e.Sight())
		quiet(t, b, 2, calls(13, ours, 0), "Late")
		quiet(t, b, 2, calls(15, theirs, 0), "Late")
		_, l := b.ticks(t, 30)
		sent(t, l)
	}
}

// One of a session that is over can come from another peer: it counts.
func TestP144CancelOkFromAnother(t *testing.T) {
	b := begin(t, tight())
	submitted(t, b, 2, 7, wholeRow[:5], 5, 1)
	b.cancel(t, session(1, 1))
	b.tick(t)
	fatalIf(t, b.e.Sight().Timers != 1, "Timers: %d", b.e.Sight().Timers)
	b.counted(t, func() { b.gets(t, 3, calls(13, session(1, 1), 0)) }, nil)
	fatalIf(t, b.e.Sight().Timers != 0, "Timers: %d", b.e.Sight().Timers)
}

// Extensions say nothing.
func TestP144Extensions(t *testing.T) {
	for i := range every(session(2, 1)) {
		plain, ext := begin(t, usual()), begin(t, usual())
		var answers [2][]api.Notice
		for k, b := range []*both{plain, ext} {
			submitted(t, b, 2, 7, wholeRow[:5], 5, 1)
			x := every(session(2, 1))[i]
			if !byOrigin(x.Type) {
				x = every(session(1, 1))[i]
			}
			if k == 1 {
				x.Head = []api.Ext{{Tag: 3, Data: []byte{1, 2}}, {Tag: 255}}
				x.Tail = []api.Ext{{Tag: 0, Data: make([]byte, 200)}}
			}
			answers[k] = b.gets(t, 2, x)
		}
		told(t, answers[1], answers[0]...)
		a, _ := plain.e.Tick()
		b, _ := ext.e.Tick()
		fatalIf(t, plain.e.Sight() != ext.e.Sight() || !sameState(plain.e.State(), ext.e.State()) || !sameOut(a, b), "type %d: extensions change something", i)
	}
}
