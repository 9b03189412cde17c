package engine_test

import (
	"testing"

	"lantern/api"
	"lantern/record"
)

// sentOut is an engine that has sent a block of so many bytes, all in the first tick.
func sentOut(t *testing.T, c api.Config, size, red int) *both {
	t.Helper()
	b := on(1<<15, c)
	b.boot(t, 0)
	submitted(t, b, 2, 7, wholeRow[:size], red, 1)
	notes, _ := b.tick(t)
	told(t, notes, note(api.NoteSent, session(1, 1), 0))
	return b
}

// All came: it is done, and closed.
func TestP144Done(t *testing.T) {
	s := session(1, 1)
	b := sentOut(t, usual(), 300, 300)
	before := len(b.records())
	told(t, b.gets(t, 2, tells(s, 9, epoch+1, 0, 300, 0, 300)), note(api.NoteDone, s, 0))
	b.adds(t, before, recEnd(1, 0))
	fatalIf(t, b.loose() != 0, "it is not safe")
	fatalIf(t, b.e.Sight().Exports+b.e.Sight().Timers != 0, "Sight: %+v", b.e.Sight())
	b.counted(t, func() { told(t, b.gets(t, 2, tells(s, 9, epoch+1, 0, 300, 0, 300))) }, nil) // again: it is acknowledged
	notes, l := b.tick(t)
	told(t, notes)
	sent(t, l, acks(s, 9), acks(s, 9))
	b.adds(t, before+1, recTold(1))
	told(t, b.gets(t, 2, tells(s, 10, 0, 0, 3, 0, 3)))
	_, l = b.tick(t)
	sent(t, l, acks(s, 10))
}

// It is done ahead of its green bytes, and of red ones that wait to be sent again: green ones go out still, then it is closed.
func TestP144DoneEarly(t *testing.T) {
	s := session(1, 1)
	b := begin(t, with(usual(), func(c *api.Config) { c.Contacts[0].Rate, c.Every = 1, 1 }))
	submitted(t, b, 2, 7, wholeRow[:700], 500, 1)
	_, l := b.tick(t)
	fatalIf(t, len(l) != 1 || l[0].Check != epoch+1, "%v", l)
	waits, timers := b.e.Sight().Waiting, b.e.Sight().Timers
	fatalIf(t, waits != 4 || timers != 1, "Sight: %+v", b.e.Sight())
	told(t, b.gets(t, 2, tells(s, 9, epoch+1, 0, 500, 0, 500)), note(api.NoteDone, s, 0))
	x := b.e.Sight()
	fatalIf(t, x.Exports != 1 || x.Timers != 0 || x.Waiting != 3, "Sight: %+v", x)
	told(t, b.gets(t, 2, tells(s, 10, epoch+1, 0, 300, 0, 300))) // it is whole: that is acknowledged, no more
	for _, want := range []api.Segment{acks(s, 9), acks(s, 10)} {
		_, l = b.tick(t)
		sent(t, l, want)
	}
	notes, l := b.tick(t)
	told(t, notes)
	fatalIf(t, len(l) != 1 || l[0].Type != api.GreenPlain, "%v", l)
	notes, l = b.tick(t)
	told(t, notes, note(api.NoteSent, s, 0))
	fatalIf(t, len(l) != 1 || l[0].Type != api.GreenLast, "%v", l)
	fatalIf(t, b.e.Sight().Exports != 0, "it is there still")
}

// A part came: what is missing is sent again, behind the acknowledgement; the timer of the checkpoint stops.
func TestP144Missing(t *testing.T) {
	s := session(1, 1)
	b := sentOut(t, usual(), 150, 150)
	before := len(b.records())
	told(t, b.gets(t, 2, tells(s, 9, epoch+1, 0, 150, 0, 100)))
	b.adds(t, before)
	fatalIf(t, b.e.Sight().Timers != 0 || b.e.Sight().Waiting != 2, "Sight: %+v", b.e.Sight())
	_, l := b.tick(t)
	sent(t, l, acks(s, 9), red(api.RedLast, s, 100, 150, epoch+2, 9))
	fatalIf(t, b.e.Sight().Timers != 1, "Timers: %d", b.e.Sight().Timers)
	told(t, b.gets(t, 2, tells(s, 9, epoch+1, 0, 150, 0, 100))) // the same again: it is acknowledged again
	_, l = b.tick(t)
	sent(t, l, acks(s, 9))
	told(t, b.gets(t, 2, tells(s, 10, epoch+2, 100, 150, 100, 150)), note(api.NoteDone, s, 0))
}

// Too many reports that bring nothing: it is cancelled, and the last one acknowledged.
func TestP144OverByCycles(t *testing.T) {
	s := session(1, 1)
	b := sentOut(t, with(usual(), func(c *api.Config) { c.Rules.Cycles = 2 }), 150, 150)
	for i := range 3 {
		told(t, b.gets(t, 2, tells(s, 1+i, 0, 0, 150, 0, 100)))
	}
	b.ticks(t, 1)
	before := len(b.records())
	told(t, b.gets(t, 2, tells(s, 9, 0, 0, 150, 3, 7)), note(api.NoteOff, s, 5))
	b.adds(t, before, recEnd(1, 6))
	fatalIf(t, b.e.Sight().Exports+b.e.Sight().Timers != 0, "Sight: %+v", b.e.Sight())
	_, l := b.tick(t)
	sent(t, l, acks(s, 9), calls(12, s, 5))
}

// Of green alone, and of none that is there: acknowledged, no more.
func TestP144ReportOfNone(t *testing.T) {
	b := on(wide, with(tight(), func(c *api.Config) { c.Queue = 9 })).puts(t, recBoot(1, 1), recNext(5))
	b.boot(t, 0)
	submitted(t, b, 2, 7, wholeRow[:200], 0, 5)
	for number := 1; number <= 5; number++ {
		b.counted(t, func() { told(t, b.gets(t, 2, tells(session(1, number), 3, epoch+1, 0, 200, 0, 200))) }, nil)
	}
	fatalIf(t, b.e.Sight().Exports != 1 || b.e.Sight().Waiting != 5+3, "Sight: %+v", b.e.Sight())
	_, l := b.tick(t)
	sent(t, l, acks(session(1, 1), 3), acks(session(1, 2), 3))
}

// Without room: neither done nor over, nor acknowledged; and then it is.
func TestP144ReportNoRoom(t *testing.T) {
	s := session(1, 1)
	for _, c := range []struct {
		x     api.Segment
		tells api.Notice
		write api.Record
	}{
		{tells(s, 9, epoch+1, 0, 150, 0, 150), note(api.NoteDone, s, 0), recEnd(1, 0)},
		{tells(s, 9, 0, 0, 150, 3, 7), note(api.NoteOff, s, 5), recEnd(1, 6)},
		{calls(14, s, 3), note(api.NoteOff, s, 3), recEnd(1, 4)},
	} {
		frames, _ := record.Frame([]api.Record{c.write})
		for _, room := range []int{0, len(frames) - 1} {
			b := sentOut(t, with(usual(), func(c *api.Config) { c.Rules.Cycles = 1 }), 150, 150)
			for i := range 2 {
				b.gets(t, 2, tells(s, 1+i, epoch+1, 0, 150, 0, 100))
			}
			b.tick(t)
			before := len(b.records())
			b.leaves(room)
			for range 2 {
				b.untouched(t, func() {
					notes, no := b.comes(t, 2, c.x)
					fatalIf(t, len(notes) != 0 || no != 5, "%v %v", notes, no)
				}, one("Full"))
			}
			b.frees()
			told(t, b.gets(t, 2, c.x), c.tells)
			b.adds(t, before, c.write)
		}
	}
}

// Answers that the line refuses: Lost, and all else is done.
func TestP144Lost(t *testing.T) {
	s := session(1, 1)
	c := with(usual(), func(c *api.Config) {
		c.Queue, c.Rules.Cycles = 2, 1
		c.Peers[0].Mtu = 1000
	})
	ahead := func() *both {
		b := sentOut(t, c, 150, 150)
		for i := range 2 {
			b.gets(t, 2, calls(12, session(2, 7+i), 0))
		}
		b.counted(t, func() { b.gets(t, 2, calls(12, session(2, 7), 0)) }, one("Lost"))
		return b
	}
	b := ahead()
	b.counted(t, func() { told(t, b.gets(t, 2, tells(s, 1, epoch+1, 0, 150, 0, 150)), note(api.NoteDone, s, 0)) }, one("Lost"))
	fatalIf(t, b.e.Sight().Exports != 0, "it is there still")
	b.counted(t, func() { told(t, b.gets(t, 2, tells(s, 1, epoch+1, 0, 150, 0, 150))) }, one("Lost"))
	b.counted(t, func() { told(t, b.gets(t, 2, calls(14, s, 0))) }, one("Lost"))

	b = ahead()
	b.counted(t, func() { told(t, b.gets(t, 2, tells(s, 1, epoch+1, 0, 150, 0, 100))) }, one("Lost"))
	fatalIf(t, b.e.Sight().Waiting != 3, "what is missing is not sent")
	b.counted(t, func() { told(t, b.gets(t, 2, tells(s, 2, 0, 0, 150, 0, 100))) }, one("Lost"))
	b.counted(t, func() { told(t, b.gets(t, 2, tells(s, 3, 0, 0, 150, 0, 100)), note(api.NoteOff, s, 5)) }, one("Lost"))
	_, l := b.tick(t)
	sent(t, l, calls(13, session(2, 7), 0), calls(13, session(2, 8), 0), calls(12, s, 5))

	b = ahead()
	b.counted(t, func() { told(t, b.gets(t, 2, calls(14, s, 3)), note(api.NoteOff, s, 3)) }, one("Lost"))

	b = ahead()
	b.gets(t, 2, red(api.RedPlain, session(2, 1), 0, 3))
	b.gets(t, 2, red(api.RedLast, session(2, 2), 0, 3, 1))
	b.counted(t, func() {
		told(t, b.gets(t, 2, calls(12, session(2, 1), 3)), noteGone(session(2, 1), 7, 3))
		told(t, b.gets(t, 2, calls(12, session(2, 2), 3)))
	}, map[string]int{"Lost": 2})
	fatalIf(t, b.e.Sight().Imports != 0, "they are there still")
}
