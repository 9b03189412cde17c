package engine_test

import (
	"slices"
	"testing"

	"lantern/api"
	"lantern/record"
	"lantern/table"
)

func TestP145LastTick(t *testing.T) {
	b := on(wide, usual()).puts(t, recBoot(1, 1), recGone(session(2, 1), 0))
	b.boot(t, api.MaxTick-1)
	submitted(t, b, 2, 7, wholeRow[:5], 5, 1)
	b.tick(t) // the link is shut at MaxTick
	fatalIf(t, b.e.Sight().Now != api.MaxTick || b.e.Sight().Waiting != 1, "Sight: %+v", b.e.Sight())
	b.gets(t, 2, red(api.RedLast, session(2, 2), 0, 5, 1))
	for range 2 {
		b.untouched(t, func() {
			out, no := b.tryTick(t)
			fatalIf(t, no != 3 || len(out.Notices)+len(out.Sends) != 0, "%v %v", out, no)
		}, nil)
	}
	submitted(t, b, 2, 7, wholeRow[:5], 5, 2) // all else can be called
	b.cancel(t, session(1, 1))
}

// What is owed is written in the order in which it came to be, once, and is not safe.
func TestP145Owed(t *testing.T) {
	b := begin(t, usual())
	for range 3 {
		b.submit(t, 2, 7, wholeRow[:5], 5)
	}
	s := []api.Session{session(2, 3), session(2, 1), session(2, 2)}
	b.gets(t, 2, red(api.RedLast, s[0], 0, 5, 1))
	b.cancel(t, session(1, 3))
	b.gets(t, 2, red(api.RedPlain, s[1], 0, 5))
	b.gets(t, 2, tells(session(1, 1), 1, 0, 0, 5, 0, 5))
	b.cancel(t, s[1])
	b.gets(t, 2, red(api.RedLast, s[2], 0, 5, 1))
	before := len(b.records())
	fatalIf(t, b.loose() != 0, "it is not safe")
	fatalIf(t, b.e.Sight().Held != 10, "Held: %d", b.e.Sight().Held)
	b.tick(t)
	b.adds(t, before, recHeard(s[0]), recTold(3), recTold(1), recHeard(s[1]), recHeard(s[2]))
	fatalIf(t, b.loose() == 0, "it is safe")
	fatalIf(t, b.e.Sight().Held != 0, "Held: %d", b.e.Sight().Held)
	b.ticks(t, 3)
	b.adds(t, before+5)
}

// Without room it stays owed, and is written when there is some, all at one time.
func TestP145OwedNoRoom(t *testing.T) {
	owes := []api.Record{recTold(1), recHeard(session(2, 1)), recTold(2)}
	frames, _ := record.Frame(owes[:2])
	for _, room := range []int{0, 12, len(frames) - 1} {
		b := on(1<<12, usual())
		b.boot(t, 0)
		submitted(t, b, 2, 7, wholeRow[:5], 5, 1)
		submitted(t, b, 2, 7, wholeRow[:5], 5, 2)
		b.gets(t, 2, tells(session(1, 1), 1, 0, 0, 5, 0, 5))
		b.gets(t, 2, red(api.RedLast, session(2, 1), 0, 5, 1))
		before := len(b.records())
		for i := range 4 {
			b.leaves(room)
			b.counted(t, func() { b.tick(t) }, one("Full"))
			b.adds(t, before)
			fatalIf(t, b.e.Sight().Now != 1+i || b.e.Sight().Held != 5, "Sight: %+v", b.e.Sight())
			b.frees()
		}
		b.cancel(t, session(1, 2)) // more is owed
		before++
		b.tick(t)
		b.adds(t, before, owes...)
		fatalIf(t, b.e.Sight().Held != 0, "Held: %d", b.e.Sight().Held)
	}
}

// The timers of a peer whose rate is 0 stand still; those of the others run.
func TestP145Held(t *testing.T) {
	for _, open := range [][2]int{{1, 50}, {4, 9}, {20, 31}} {
		c := with(tight(), func(c *api.Config) {
			c.Idle = 8
			c.Contacts = []api.Contact{{Peer: 2, To: api.MaxTick, Rate: 1}, {Peer: 3, From: open[0], To: open[1], Rate: 1}, {Peer: 3, From: 60, To: api.MaxTick, Rate: 9}}
		})
		b := begin(t, c)
		b.gets(t, 2, red(api.RedPlain, session(2, 1), 0, 5))
		b.gets(t, 3, red(api.RedPlain, session(3, 1), 0, 5))
		left := 8
		for tick := 1; tick < 80; tick++ {
			notes, _ := b.tick(t)
			if tick >= open[0] && tick < open[1] || tick >= 60 {
				left--
			}
			var want []api.Notice
			if tick == 8 {
				want = append(want, noteGone(session(2, 1), 7, 4))
			}
			if left == 0 {
				want = append(want, noteGone(session(3, 1), 7, 4))
				left = -1
			}
			told(t, notes, want...)
		}
		fatalIf(t, left > 0, "%d ticks are left", left)
	}
}

// A checkpoint that is not answered: again, Retry times, Timeout ticks behind each going out; then it is cancelled.
func TestP145CheckLate(t *testing.T) {
	s := session(1, 1)
	for _, retry := range []int{1, 3} {
		b := sentOut(t, with(usual(), func(c *api.Config) { c.Rules.Retry = retry }), 5, 5)
		for range retry {
			_, l := b.ticks(t, 9)
			sent(t, l)
			notes, l := b.tick(t)
			told(t, notes)
			sent(t, l, red(api.RedLast, s, 0, 5, epoch+1))
		}
		b.ticks(t, 9)
		before := len(b.records())
		notes, l := b.tick(t)
		told(t, notes, note(api.NoteOff, s, 2))
		sent(t, l, calls(12, s, 2))
		b.adds(t, before, recEnd(1, 3))
		fatalIf(t, b.loose() != 0, "it is not safe")
		fatalIf(t, b.e.Sight().Exports != 0 || b.e.Sight().Timers != 1, "Sight: %+v", b.e.Sight())
		b.tick(t)
		b.adds(t, before+1, recTold(1))
	}
}

// A report that is not acknowledged, likewise: its import is gone, or, if it is delivered, shut.
func TestP145ReportLate(t *testing.T) {
	s := session(2, 1)
	for _, delivered := range []bool{false, true} {
		b := begin(t, usual())
		x, report := red(api.RedCheck, s, 0, 5, 4), tells(s, epoch+1, 4, 0, 5, 0, 5)
		if delivered {
			x = red(api.RedLast, s, 0, 5, 4)
		}
		b.gets(t, 2, x)
		_, l := b.tick(t)
		sent(t, l, report)
		for range 3 {
			_, l = b.ticks(t, 9)
			sent(t, l)
			_, l = b.tick(t)
			sent(t, l, report)
		}
		b.ticks(t, 9)
		before := len(b.records())
		notes, l := b.tick(t)
		if delivered {
			told(t, notes)
			sent(t, l)
			b.adds(t, before, recShut(s))
		} else {
			told(t, notes, noteGone(s, 7, 2))
			sent(t, l, calls(14, s, 2))
			b.adds(t, before, recGone(s, 2))
			fatalIf(t, b.loose() != 0, "it is not safe")
		}
		fatalIf(t, b.e.Sight().Imports != 0, "it is there still")
	}
}

// A cancel that is not acknowledged: again, Retry times; then it is no longer under way.
func TestP145CancelLate(t *testing.T) {
	for _, retry := range []int{1, 3} {
		for _, x := range []api.Segment{calls(12, session(1, 1), 0), calls(14, session(2, 1), 0), calls(14, session(2, 2), 1)} {
			b := begin(t, with(usual(), func(c *api.Config) { c.Rules.Retry = retry }))
			switch x.Session {
			case session(1, 1):
				submitted(t, b, 2, 7, wholeRow[:5], 5, 1)
				b.cancel(t, x.Session)
			case session(2, 1):
				b.gets(t, 2, red(api.RedPlain, x.Session, 0, 5))
				b.cancel(t, x.Session)
			default:
				b.gets(t, 2, serves(red(api.RedPlain, x.Session, 0, 5), 9))
			}
			_, l := b.tick(t)
			sent(t, l, x)
			for range retry {
				_, l = b.ticks(t, 9)
				sent(t, l)
				_, l = b.tick(t)
				sent(t, l, x)
			}
			b.ticks(t, 9)
			fatalIf(t, b.e.Sight().Timers != 1, "Timers: %d", b.e.Sight().Timers)
			before := len(b.records())
			notes, l := b.tick(t)
			told(t, notes)
			sent(t, l)
			b.adds(t, before)
			fatalIf(t, b.e.Sight().Timers+b.e.Sight().Waiting != 0, "Sight: %+v", b.e.Sight())
			if x.Session == session(2, 2) {
				told(t, b.gets(t, 2, serves(red(api.RedPlain, x.Session, 0, 5), 9)))
				_, l = b.tick(t)
				sent(t, l, x) // it begins anew
			} else {
				ok := calls(x.Type+1, x.Session, 0)
				quiet(t, b, 2, ok, "Late")
			}
		}
	}
}

// Nothing comes any more: an import is gone, or, if it is delivered, shut.
func TestP145Idle(t *testing.T) {
	s := session(2, 1)
	for _, delivered := range []bool{false, true} {
		b := begin(t, with(usual(), func(c *api.Config) {
			c.Idle = 6
			c.Peers[0].Timeout = 3
		}))
		x := red(api.RedPlain, s, 0, 5)
		if delivered {
			x = red(api.RedEnd, s, 0, 5, 1)
		}
		b.gets(t, 2, x)
		notes, _ := b.ticks(t, 5)
		told(t, notes)
		before := len(b.records())
		notes, l := b.tick(t)
		if delivered {
			told(t, notes)
			sent(t, l) // nor the report that would be due
			b.adds(t, before, recShut(s))
			fatalIf(t, b.loose() == 0, "RecShut is safe")
		} else {
			told(t, notes, noteGone(s, 7, 4))
			sent(t, l, calls(14, s, 4))
			b.adds(t, before, recGone(s, 4))
		}
		fatalIf(t, b.e.Sight().Imports != 0, "it is there still")
	}
}

// Each of these without room: nothing is done, it is tried at each tick from then on, and done when there is room.
func TestP145LateNoRoom(t *testing.T) {
	ours, theirs := session(1, 1), session(2, 1)
	c := with(usual(), func(c *api.Config) {
		c.Idle = 5
		c.Rules.Retry = 1
		c.Peers[0].Timeout = 2
	})
	slow := with(c, func(c *api.Config) { c.Idle = 1000 })
	patient := with(c, func(c *api.Config) { c.Peers[0].Timeout = 1000 })
	for _, x := range []struct {
		c     api.Config
		ahead call
		ticks int // behind which it is due
		write api.Record
		tells []api.Notice
	}{
		{c, submits(2, 7, 5, 5), 4, recEnd(1, 3), []api.Notice{note(api.NoteOff, ours, 2)}},
		{slow, receives(2, red(api.RedCheck, theirs, 0, 5, 1)), 4, recGone(theirs, 2), []api.Notice{noteGone(theirs, 7, 2)}},
		{slow, receives(2, red(api.RedEnd, theirs, 0, 5, 1)), 4, recShut(theirs), nil},
		{patient, receives(2, red(api.RedPlain, theirs, 0, 5)), 4, recGone(theirs, 4), []api.Notice{noteGone(theirs, 7, 4)}},
		{patient, receives(2, red(api.RedEnd, theirs, 0, 5, 1)), 4, recShut(theirs), nil},
	} {
		frames, _ := record.Frame([]api.Record{x.write})
		for _, room := range []int{0, len(frames) - 1} {
			b := on(1<<12, x.c)
			b.boot(t, 0)
			x.ahead(t, b)
			b.ticks(t, x.ticks)
			before, timers := len(b.records()), b.e.Sight().Timers
			for range 3 {
				b.leaves(room)
				b.counted(t, func() {
					notes, l := b.tick(t)
					told(t, notes)
					sent(t, l)
				}, one("Full"))
				b.adds(t, before)
				fatalIf(t, b.e.Sight().Timers != timers || b.e.Sight().Exports+b.e.Sight().Imports != 1, "Sight: %+v", b.e.Sight())
				b.frees()
			}
			notes, _ := b.tick(t)
			told(t, notes, x.tells...)
			b.adds(t, before, x.write)
			fatalIf(t, b.e.Sight().Exports+b.e.Sight().Imports != 0, "it is there still")
		}
	}
}

// Keys that run out in one tick, in the order of keys: by the peer, the origin, the number, the kind, the serial.
func TestP145Order(t *testing.T) {
	c := with(tight(), func(c *api.Config) {
		c.Sessions, c.Hold, c.Queue, c.Idle = 20, 1000, 100, 3
		c.Contacts = []api.Contact{{Peer: 2, To: api.MaxTick, Rate: 50}, {Peer: 3, To: api.MaxTick, Rate: 50}}
	})
	b := begin(t, c)
	for _, s := range []api.Session{session(3, 2), session(2, 9), session(3, 1), session(2, 1), session(2, 4)} {
		b.gets(t, s.Origin, red(api.RedPlain, s, 0, 5))
	}
	b.ticks(t, 2)
	notes, l := b.tick(t)
	told(t, notes, noteGone(session(2, 1), 7, 4), noteGone(session(2, 4), 7, 4), noteGone(session(2, 9), 7, 4), noteGone(session(3, 1), 7, 4), noteGone(session(3, 2), 7, 4))
	sent(t, l, calls(14, session(3, 1), 4), calls(14, session(3, 2), 4), calls(14, session(2, 1), 4), calls(14, session(2, 4), 4), calls(14, session(2, 9), 4))

	// The first key of a session that ends it leaves nothing to the others.
	b = begin(t, with(c, func(c *api.Config) { c.Rules.Retry, c.Idle = 1, 1000 }))
	s := session(2, 1)
	b.gets(t, 2, red(api.RedCheck, s, 0, 5, 1))
	b.gets(t, 2, red(api.RedCheck, s, 5, 9, 2))
	b.ticks(t, 4) // both reports went out, and once more
	b.gets(t, 2, red(api.RedPlain, s, 0, 5))
	b.ticks(t, 2)
	notes, _ = b.tick(t)
	told(t, notes, noteGone(s, 7, 2))
}

// Peer by peer in the configuration's order, as many as the rate at that tick says; answers, then controls, then data.
func TestP145Rate(t *testing.T) {
	c := with(tight(), func(c *api.Config) {
		c.Sessions, c.Queue = 20, 100
		c.Contacts = []api.Contact{{Peer: 2, From: 1, To: 3, Rate: 2}, {Peer: 2, From: 2, To: 9, Rate: 1}, {Peer: 3, From: 3, To: 4, Rate: 3}}
	})
	b := begin(t, c)
	for range 4 {
		b.submit(t, 2, 7, wholeRow[:5], 5)
		b.submit(t, 3, 7, wholeRow[:5], 5)
	}
	b.gets(t, 3, calls(12, session(3, 9), 0))
	b.gets(t, 2, red(api.RedCheck, session(2, 1), 0, 5, 1))
	b.gets(t, 2, calls(12, session(2, 9), 0))
	last := func(n int) api.Segment { return red(api.RedLast, session(1, n), 0, 5, epoch+1) }
	for _, want := range [][]api.Segment{
		{calls(13, session(2, 9), 0), tells(session(2, 1), epoch+1, 1, 0, 5, 0, 5)},
		{last(1), last(3), last(5)},
		{calls(13, session(3, 9), 0), last(2), last(4), last(7)},
	} {
		out, _ := b.tryTick(t)
		sent(t, read(t, out), want...)
		for i, s := range out.Sends {
			peer := 2
			if want[i].Session.Origin == 1 && want[i].Session.Number%2 == 0 || want[i].Session.Origin == 3 {
				peer = 3
			}
			fatalIf(t, s.Peer != peer, "%v goes to %d", want[i], s.Peer)
		}
	}
	_, l := b.tick(t)
	for _, x := range l {
		fatalIf(t, x.Session.Origin == 1 && x.Session.Number%2 == 0, "%v goes out to a peer that is held", x)
	}
}

// Green alone: it is there till all of it has gone out; NoteSent is told with the last of it, then it is closed.
func TestP145Green(t *testing.T) {
	s := session(1, 1)
	b := begin(t, with(usual(), func(c *api.Config) { c.Contacts[0].Rate = 1 }))
	submitted(t, b, 2, 7, wholeRow[:500], 0, 1)
	for i := range 3 {
		fatalIf(t, b.e.Sight().Exports != 1, "it is gone")
		notes, l := b.tick(t)
		fatalIf(t, len(l) != 1 || b.e.Sight().Timers != 0, "%v", l)
		if i < 2 {
			told(t, notes)
		} else {
			told(t, notes, note(api.NoteSent, s, 0))
		}
	}
	fatalIf(t, b.e.Sight().Exports != 0, "it is there still")
	notes, l := b.ticks(t, 30)
	told(t, notes)
	sent(t, l)
}

// NoteSent is told once, with the last piece; each checkpoint has a timer from its going out on.
func TestP145Sent(t *testing.T) {
	s := session(1, 1)
	b := begin(t, with(usual(), func(c *api.Config) { c.Contacts[0].Rate, c.Every = 1, 2 }))
	submitted(t, b, 2, 7, wholeRow[:900], 700, 1)
	timers := 0
	for b.e.Sight().Waiting > 0 {
		waiting := b.e.Sight().Waiting
		notes, l := b.tick(t)
		if l[0].Check > 0 {
			timers++
		}
		fatalIf(t, b.e.Sight().Timers != timers, "Timers: %d, not %d", b.e.Sight().Timers, timers)
		if waiting == 1 {
			told(t, notes, note(api.NoteSent, s, 0))
		} else {
			told(t, notes)
		}
	}
	fatalIf(t, timers != 2, "%d checkpoints", timers)
	notes, _ := b.ticks(t, 20)
	told(t, notes)
}

// One that goes on behind a boot tells no NoteSent.
func TestP145SentAgain(t *testing.T) {
	b := sentOut(t, usual(), 5, 5)
	b.again(t, 0, 9)
	notes, l := b.tick(t)
	told(t, notes)
	sent(t, l, red(api.RedLast, session(1, 1), 0, 5, 2*epoch+1))
	told(t, b.gets(t, 2, tells(session(1, 1), 1, 0, 0, 5, 0, 5)), note(api.NoteDone, session(1, 1), 0))
}

// The journal is written anew: at Compact bytes, not one below, if the snapshot has at most half as many, not one more.
func TestP145Compact(t *testing.T) {
	// Of so many exports that are over nothing stays but the next one's number.
	over := func(n int) (l []api.Record) {
		l = append(l, recBoot(1, 1))
		for i := 1; i <= n; i++ {
			l = append(l, recOpen(i, 2, 5, 5), recEnd(i, 0), recTold(i))
		}
		return l
	}
	short, _ := record.Frame([]api.Record{recBoot(1, 2), recNext(10)})
	for more := -1; more <= 1; more++ {
		probe := on(wide, usual()).puts(t, over(9)...)
		probe.boot(t, 0)
		size := probe.e.Sight().Journal
		b := on(wide, with(usual(), func(c *api.Config) { c.Compact = size + more })).puts(t, over(9)...)
		b.boot(t, 0)
		fatalIf(t, b.e.Sight().Journal != size, "a boot writes it anew")
		b.tick(t)
		if more > 0 {
			fatalIf(t, b.e.Sight().Journal != size, "%d bytes, below Compact, and it is written anew", size)
			continue
		}
		fatalIf(t, b.e.Sight().Journal != len(short) || b.loose() != 0, "%d bytes, not %d", b.e.Sight().Journal, len(short))
		b.adds(t, 0, recBoot(1, 2), recNext(10))
	}
}

// Half as many bytes: records that make the journal just twice as long as its snapshot, a little more, and a little less.
func TestP145CompactHalf(t *testing.T) {
	seen := map[bool]int{}
	for fill := 0; fill < 60; fill++ {
		stands := []api.Record{recBoot(1, 1), recOpen(1, 2, 40, 40), recOpen(2, 2, 1+fill, 1+fill), recEnd(2, 0), recTold(2)}
		b := on(wide, with(usual(), func(c *api.Config) { c.Compact = 1 })).puts(t, stands...)
		b.boot(t, 0)
		size := b.e.Sight().Journal
		x, _, _ := table.Load(b.records())
		snapshot, _ := record.Frame(x.Snapshot())
		b.tick(t)
		anew := b.e.Sight().Journal != size
		fatalIf(t, anew != (2*len(snapshot) <= size), "of %d bytes %d are enough: %v", size, len(snapshot), anew)
		fatalIf(t, anew && b.e.Sight().Journal != len(snapshot), "%d bytes, not %d", b.e.Sight().Journal, len(snapshot))
		if 2*len(snapshot) == size || 2*len(snapshot) == size+1 {
			seen[anew]++
		}
	}
	fatalIf(t, seen[true] == 0 || seen[false] == 0, "the edge was not met: %v", seen)
}

// What the same tick wrote is in it: what was owed, and what timers did.
func TestP145CompactBehindWrites(t *testing.T) {
	b := begin(t, with(usual(), func(c *api.Config) { c.Compact, c.Idle = 150, 1 }))
	submitted(t, b, 2, 7, wholeRow[:90], 90, 1)
	b.gets(t, 2, tells(session(1, 1), 1, 0, 0, 90, 0, 90))
	b.gets(t, 2, red(api.RedPlain, session(2, 1), 0, 5))
	notes, _ := b.tick(t)
	told(t, notes, noteGone(session(2, 1), 7, 4))
	b.adds(t, 0, recBoot(1, 1), recNext(2), recGone(session(2, 1), 4))
	fatalIf(t, b.loose() != 0, "it is not safe")
	b.tick(t)
	b.adds(t, 3, recHeard(session(2, 1)))
	told(t, b.again(t, wide, 3).Notices)
}

// Without room for the snapshot nothing is done, and nothing counted; it is tried again at each tick.
func TestP145CompactNoRoom(t *testing.T) {
	stands := []api.Record{recBoot(1, 1)}
	for i := 1; i <= 9; i++ {
		stands = append(stands, recOpen(i, 2, 5, 5), recEnd(i, 0), recTold(i))
	}
	short, _ := record.Frame([]api.Record{recBoot(1, 2), recNext(10)})
	b := on(1<<12, with(usual(), func(c *api.Config) { c.Compact = 100 })).puts(t, stands...)
	b.boot(t, 0)
	size := b.e.Sight().Journal
	for range 3 {
		b.leaves(len(short) - 1)
		b.counted(t, func() { b.tick(t) }, nil)
		fatalIf(t, b.e.Sight().Journal != size || slices.ContainsFunc(b.h.Files(), func(f file) bool { return f.Name == "journal.new" }), "%+v", b.e.Sight())
		b.frees()
	}
	b.leaves(len(short))
	b.tick(t)
	fatalIf(t, b.e.Sight().Journal != len(short), "%d bytes", b.e.Sight().Journal)
}

// It grows again to just as many bytes as it had when half of them would not do: that was another journal.
func TestP145CompactAgain(t *testing.T) {
	told, _ := record.Frame([]api.Record{recTold(2)})
	met := 0
	for n := range 80 {
		b := begin(t, with(usual(), func(c *api.Config) { c.Compact = 1 }))
		submitted(t, b, 2, 7, wholeRow[:60], 60, 1)
		b.ticks(t, 2)
		size := b.e.Sight().Journal
		b.gets(t, 2, tells(session(1, 1), 1, 0, 0, 60, 0, 60))
		b.tick(t)
		fatalIf(t, b.e.Sight().Journal >= size, "it is not written anew")
		submitted(t, b, 2, 7, wholeRow[:1+n], 1+n, 2)
		b.gets(t, 2, tells(session(1, 2), 1, 0, 0, 1+n, 0, 1+n))
		if b.e.Sight().Journal+len(told) == size {
			met++
			b.tick(t)
			b.adds(t, 0, recBoot(1, 1), recNext(3))
		}
	}
	fatalIf(t, met == 0, "it never has as many bytes")
}
