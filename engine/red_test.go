package engine_test

import (
	"bytes"
	"slices"
	"testing"

	"lantern/api"
	"lantern/record"
	"lantern/segment"
)

// quiet wants that what comes changes nothing but a counter.
func quiet(t *testing.T, b *both, from int, x api.Segment, counter string) {
	t.Helper()
	b.untouched(t, func() { told(t, b.gets(t, from, x)) }, one(counter))
}

// every is a segment of each type, of a session.
func every(s api.Session) []api.Segment {
	return []api.Segment{
		red(api.RedPlain, s, 0, 5), red(api.RedCheck, s, 0, 5, 1), red(api.RedEnd, s, 0, 5, 1), red(api.RedLast, s, 0, 5, 1), green(api.GreenPlain, s, 5, 9), green(api.GreenLast, s, 5, 9),
		tells(s, 1, epoch+1, 0, 5, 0, 5), acks(s, epoch+1), calls(12, s, 2), calls(13, s, 0), calls(14, s, 2), calls(15, s, 0),
	}
}

// byOrigin tells whether only the origin of a session sends what has this type.
func byOrigin(kind int) bool { return kind != 8 && kind != 13 && kind != 14 }

// From nobody: whatever the bytes are.
func TestP144NoPeer(t *testing.T) {
	b := begin(t, tight())
	submitted(t, b, 2, 7, wholeRow[:5], 5, 1)
	for _, from := range []int{minInt, -2, 0, 1, 4, 9, top, maxInt} {
		for _, raw := range [][]byte{nil, {255}, make([]byte, 9000), printed(t, red(api.RedLast, session(2, 1), 0, 5, 1)), printed(t, calls(14, session(1, 1), 0))} {
			b.untouched(t, func() {
				_, no := b.receive(t, from, raw)
				fatalIf(t, no != 142, "from %d: %v", from, no)
			}, nil)
		}
	}
}

// Bytes that are no segment: Parse's error, and a counter.
func TestP144Bad(t *testing.T) {
	b := begin(t, tight())
	whole := printed(t, red(api.RedLast, session(2, 1), 0, 5, 1))
	for _, raw := range [][]byte{nil, {255}, {5, 2, 1, 0}, {3, 0}, {9, 128, 1}, whole[:len(whole)-1], append(slices.Clone(whole), 0), make([]byte, 8193), bytes.Repeat([]byte{255}, 8192)} {
		_, want := segment.Parse(raw)
		fatalIf(t, want == ok, "%v is a segment", raw)
		b.untouched(t, func() {
			_, no := b.receive(t, 3, raw)
			fatalIf(t, no != want, "%v, not %v", no, want)
		}, one("Bad"))
	}
}

// strays wants that what comes is none of the engine's business.
func strays(t *testing.T, b *both, from int, x api.Segment) {
	t.Helper()
	b.untouched(t, func() {
		_, no := b.comes(t, from, x)
		fatalIf(t, no != 146, "%s: %v", b.last, no)
	}, one("Stray"))
}

func TestP144Stray(t *testing.T) {
	b := begin(t, tight())
	submitted(t, b, 2, 7, wholeRow[:5], 5, 1)
	submitted(t, b, 3, 7, wholeRow[:5], 0, 2)
	b.gets(t, 2, red(api.RedPlain, session(2, 1), 0, 3))
	for _, s := range []api.Session{session(1, 1), session(2, 1), session(2, 2), session(3, 1), session(9, 1), session(top, top-1)} {
		for _, x := range every(s) {
			for _, from := range []int{2, 3} {
				if byOrigin(x.Type) && s.Origin != from || !byOrigin(x.Type) && s.Origin != 1 {
					strays(t, b, from, x)
				}
			}
		}
	}
	for _, x := range every(session(1, 1)) {
		if !byOrigin(x.Type) {
			strays(t, b, 3, x) // its peer is 2
			for _, number := range []int{3, 4, top - 1} {
				x.Session.Number = number
				strays(t, b, 2, x) // the number is not given yet
				strays(t, b, 3, x)
			}
			x.Session.Number = 2
			strays(t, b, 2, x)
		}
	}
}

// Behind its end an export is nobody's: what comes of it is answered, whoever sends it.
func TestP144NoStrayBehindTheEnd(t *testing.T) {
	b := begin(t, tight())
	submitted(t, b, 2, 7, wholeRow[:5], 5, 1)
	b.gets(t, 2, tells(session(1, 1), 3, 0, 0, 5, 0, 5))
	b.ticks(t, 8)
	told(t, b.gets(t, 3, tells(session(1, 1), 4, 0, 0, 5, 0, 5)))
	told(t, b.gets(t, 3, calls(14, session(1, 1), 0)))
	_, l := b.tick(t)
	sent(t, l, acks(session(1, 1), 4), calls(15, session(1, 1), 0))
}

// A session that is closed, in each way.
func TestP144Closed(t *testing.T) {
	s := session(2, 1)
	for _, way := range importWays(s) {
		b := on(wide, usual()).puts(t, append([]api.Record{recBoot(1, 1)}, way.stands...)...)
		b.boot(t, 0)
		for _, x := range every(s)[:6] {
			if !way.there {
				quiet(t, b, 2, x, "Late")
			}
		}
	}
	b := on(wide, usual()).puts(t, recBoot(1, 1), recTomb(2, 1, 5, 9, 10), recTomb(3, 6, 7))
	b.boot(t, 0)
	for number := 1; number <= 11; number++ {
		for _, x := range every(session(2, number))[:6] {
			if number < 5 || number == 9 {
				quiet(t, b, 2, x, "Late")
			} else {
				b.counted(t, func() { b.gets(t, 2, x) }, map[string]int{"Late": 0})
				b.gets(t, 2, calls(12, x.Session, 0))
				b.again(t, 0, 0)
				break
			}
		}
	}
}

// Of another service than its import.
func TestP144AnotherService(t *testing.T) {
	s := session(2, 1)
	for _, first := range []api.Segment{red(api.RedPlain, s, 0, 3), red(api.RedLast, s, 0, 5, 1)} {
		b := begin(t, tight())
		b.gets(t, 2, first)
		for _, service := range []int{8, 9} {
			for _, x := range every(s)[:6] {
				quiet(t, b, 2, serves(x, service), "Late")
			}
		}
	}
}

// Of a service that is none of ours: it is cancelled, and is not told again while that is under way.
func TestP144NoService(t *testing.T) {
	s := session(2, 1)
	for _, x := range every(s)[:4] {
		b := begin(t, tight())
		x = serves(x, 9)
		before := len(b.records())
		b.counted(t, func() { told(t, b.gets(t, 2, x)) }, nil)
		b.adds(t, before)
		fatalIf(t, b.e.Sight().Imports != 0 || b.e.Sight().Waiting != 1 || b.e.Sight().Timers != 0, "Sight: %+v", b.e.Sight())
		quiet(t, b, 2, x, "Late")
		quiet(t, b, 2, serves(x, 7), "Late")
		_, l := b.tick(t)
		sent(t, l, calls(14, s, 1))
		fatalIf(t, b.e.Sight().Timers != 1, "Timers: %d", b.e.Sight().Timers)
		quiet(t, b, 2, x, "Late")
		b.counted(t, func() { told(t, b.gets(t, 2, calls(15, s, 0))) }, nil)
		fatalIf(t, b.e.Sight().Timers != 0, "Timers: %d", b.e.Sight().Timers)
		told(t, b.gets(t, 2, x)) // once more from the beginning
		_, l = b.tick(t)
		sent(t, l, calls(14, s, 1))
	}
	b := begin(t, with(tight(), func(c *api.Config) { c.Services = nil }))
	for i := range 2 {
		quiet(t, b, 2, green(api.GreenPlain+3*i, s, 0, 5), "Refused")
	}
}

// Sessions such cancels are under way, or Queue segments wait for that peer: it is refused.
func TestP144NoServiceLimits(t *testing.T) {
	other := func(s api.Session) api.Segment { return serves(red(api.RedPlain, s, 0, 5), 9) }
	b := begin(t, with(tight(), func(c *api.Config) { c.Sessions, c.Queue, c.Hold = 3, 50, 3 }))
	submitted(t, b, 2, 7, wholeRow[:5], 5, 1)
	b.cancel(t, session(1, 1)) // of the other type
	b.gets(t, 2, other(session(2, 1)))
	b.gets(t, 3, other(session(3, 1)))
	b.gets(t, 2, other(session(2, 2)))
	quiet(t, b, 2, other(session(2, 3)), "Refused")
	quiet(t, b, 3, other(session(3, 3)), "Refused")
	quiet(t, b, 2, other(session(2, 2)), "Late")
	b.gets(t, 3, calls(15, session(3, 1), 0))
	b.gets(t, 3, other(session(3, 3)))
	quiet(t, b, 3, other(session(3, 4)), "Refused")

	b = begin(t, with(tight(), func(c *api.Config) { c.Sessions, c.Queue = 9, 3 }))
	submitted(t, b, 2, 7, wholeRow[:5], 5, 1)
	b.gets(t, 2, calls(12, session(2, 9), 0))
	b.gets(t, 2, other(session(2, 1)))
	quiet(t, b, 2, other(session(2, 2)), "Refused")
	b.gets(t, 3, other(session(3, 2)))
	b.tick(t)
	b.gets(t, 2, other(session(2, 2)))
}

// An import begins: each type of red data that it can begin with.
func TestP144Begins(t *testing.T) {
	s := session(2, 1)
	start := noteIn(api.NoteStart, s, 7, nil)
	for _, c := range []struct {
		x         api.Segment
		red, size int
		safe      bool
		note      bool
		report    bool
	}{
		{red(api.RedPlain, s, 0, 5), 0, 0, false, false, false},
		{red(api.RedPlain, s, 3, 5), 0, 0, false, false, false},
		{red(api.RedCheck, s, 0, 5, 9), 0, 0, true, false, true},
		{red(api.RedEnd, s, 3, 5, 9), 5, 0, true, false, true},
		{red(api.RedEnd, s, 0, 5, 9), 5, 0, true, true, true},
		{red(api.RedLast, s, 3, 5, 9), 5, 5, true, false, true},
		{red(api.RedLast, s, 0, 5, 9), 5, 5, true, true, true},
	} {
		b := begin(t, usual())
		b.gets(t, 2, red(api.RedPlain, session(2, 7), 0, 1)) // so that something is not safe
		fatalIf(t, b.loose() == 0, "it is safe")
		before := len(b.records())
		want := []api.Notice{start}
		records := []api.Record{recRed(s, c.x.Offset, 5, c.red, c.size)}
		if c.note {
			want = append(want, noteIn(api.NoteRed, s, 7, wholeRow[:5]))
			records = append(records, recDone(s))
		}
		told(t, b.gets(t, 2, c.x), want...)
		b.adds(t, before, records...)
		fatalIf(t, (b.loose() == 0) != c.safe, "safe: %v, type %d", b.loose() == 0, c.x.Type)
		fatalIf(t, b.e.Sight().Imports != 2 || b.e.Sight().Timers != 2 || b.e.Sight().Held != 6-c.x.Offset, "Sight: %+v", b.e.Sight())
		_, l := b.tick(t)
		if c.report {
			sent(t, l, tells(s, epoch+1, 9, 0, 5, c.x.Offset, 5))
		} else {
			sent(t, l)
		}
		if c.note {
			b.adds(t, before+2, recHeard(s))
			fatalIf(t, b.e.Sight().Held != 1, "its bytes are held still")
		} else {
			b.adds(t, before+1)
		}
	}
}

// Each segment twice: no byte is new, nothing is written, nothing is told; a checkpoint makes all safe.
func TestP144Twice(t *testing.T) {
	s := session(2, 1)
	for _, x := range every(s)[:4] {
		for _, between := range []bool{false, true} {
			b := begin(t, usual())
			b.gets(t, 2, x)
			if between {
				b.gets(t, 2, red(api.RedPlain, session(2, 2), 0, 1))
			}
			before, size := len(b.records()), b.e.Sight().Journal
			b.counted(t, func() { told(t, b.gets(t, 2, x)) }, nil)
			b.adds(t, before)
			fatalIf(t, b.e.Sight().Journal != size, "the journal grew")
			fatalIf(t, x.Type > 0 && b.loose() != 0, "a checkpoint, and it is not safe")
			fatalIf(t, x.Type == 0 && b.loose() == 0, "no checkpoint, and it is safe")
		}
	}
}

// The red part's length is known by a segment that has no new byte: that is written.
func TestP144LengthAlone(t *testing.T) {
	s := session(2, 1)
	b := begin(t, usual())
	b.gets(t, 2, red(api.RedPlain, s, 3, 5))
	before := len(b.records())
	told(t, b.gets(t, 2, red(api.RedEnd, s, 3, 5, 1)))
	b.adds(t, before, recRed(s, 3, 5, 5, 0))
	told(t, b.gets(t, 2, red(api.RedLast, s, 4, 5, 2))) // the block's length alone is not
	b.adds(t, before+1)
	told(t, b.gets(t, 2, red(api.RedPlain, s, 0, 3)), noteIn(api.NoteRed, s, 7, wholeRow[:5]))
	b.adds(t, before+1, recRed(s, 0, 3, 5, 5), recDone(s))
	fatalIf(t, b.loose() != 0, "RecDone is not safe")

	for _, n := range []int{1, 2, 5} {
		b = begin(t, usual())
		b.gets(t, 2, red(api.RedPlain, s, 0, n))
		before = len(b.records())
		told(t, b.gets(t, 2, red(api.RedEnd, s, n-1, n, 1)), noteIn(api.NoteRed, s, 7, wholeRow[:n]))
		b.adds(t, before, recRed(s, n-1, n, n, 0), recDone(s))
	}
}

// What cannot be of one block with what came.
func TestP144Wrong(t *testing.T) {
	s := session(2, 1)
	for _, wrong := range []api.Segment{red(api.RedPlain, s, 4, 6), red(api.RedEnd, s, 3, 4, 2), red(api.RedLast, s, 3, 6, 2), green(api.GreenPlain, s, 4, 9), green(api.GreenLast, s, 3, 9)} {
		b := begin(t, usual())
		b.gets(t, 2, red(api.RedEnd, s, 3, 5, 1))
		before := len(b.records())
		told(t, b.gets(t, 2, wrong), noteGone(s, 7, 3))
		b.adds(t, before, recGone(s, 3))
		fatalIf(t, b.loose() != 0, "it is not safe")
		fatalIf(t, b.e.Sight().Imports+b.e.Sight().Timers+b.e.Sight().Held != 0, "Sight: %+v", b.e.Sight())
		quiet(t, b, 2, wrong, "Late")
		_, l := b.tick(t)
		sent(t, l, calls(14, s, 3)) // its report is gone

		b = begin(t, usual())
		b.gets(t, 2, red(api.RedEnd, s, 0, 5, 1))
		quiet(t, b, 2, wrong, "Late") // it is delivered
		b.tick(t)
		quiet(t, b, 2, wrong, "Late")
	}
}

// More spans than a set has.
func TestP144Big(t *testing.T) {
	s := session(2, 1)
	stands := []api.Record{recBoot(1, 1)}
	for i := range 2000 {
		stands = append(stands, recRed(s, 2*i, 2*i+1, 0, 0))
	}
	b := on(wide, with(usual(), func(c *api.Config) { c.Peers[0].Mtu = 4096 })).puts(t, stands...)
	b.boot(t, 0)
	told(t, b.gets(t, 2, red(api.RedCheck, s, 4000, 4001, 1)), noteGone(s, 7, 4))
	_, l := b.tick(t)
	sent(t, l, calls(14, s, 4))
}

// Too many checkpoints that bring nothing.
func TestP144Cycle(t *testing.T) {
	s := session(2, 1)
	for _, cycles := range []int{1, 3} {
		c := with(usual(), func(c *api.Config) { c.Rules.Cycles = cycles })
		b := begin(t, c)
		b.gets(t, 2, red(api.RedCheck, s, 0, 5, 1))
		for i := range cycles {
			told(t, b.gets(t, 2, red(api.RedCheck, s, 0, 5, 2+i)))
		}
		told(t, b.gets(t, 2, red(api.RedCheck, s, 0, 5, 1)))
		told(t, b.gets(t, 2, red(api.RedCheck, s, 0, 5, 99)), noteGone(s, 7, 5))
		_, l := b.tick(t)
		sent(t, l, calls(14, s, 5))

		b = begin(t, c)
		b.gets(t, 2, red(api.RedEnd, s, 0, 5, 1))
		for i := range cycles {
			told(t, b.gets(t, 2, red(api.RedCheck, s, 0, 4, 2+i)))
		}
		quiet(t, b, 2, red(api.RedCheck, s, 0, 4, 99), "Late")
	}
}

// Hold: the bytes of all imports together, at the limit and one more.
func TestP144Hold(t *testing.T) {
	first, second := session(2, 1), session(3, 1)
	c := with(tight(), func(c *api.Config) { c.Hold, c.Sessions = 20, 5 })
	b := begin(t, c)
	b.gets(t, 2, red(api.RedPlain, first, 0, 12))
	quiet(t, b, 3, red(api.RedPlain, second, 0, 9), "Refused")
	b.gets(t, 3, red(api.RedPlain, second, 0, 8))
	fatalIf(t, b.e.Sight().Held != 20, "Held: %d", b.e.Sight().Held)
	quiet(t, b, 3, red(api.RedPlain, session(3, 2), 0, 1), "Refused")
	b.counted(t, func() { told(t, b.gets(t, 3, red(api.RedPlain, second, 1, 7))) }, nil) // nothing new
	told(t, b.gets(t, 3, red(api.RedPlain, second, 7, 9)), noteGone(second, 7, 4))
	fatalIf(t, b.e.Sight().Held != 12, "Held: %d", b.e.Sight().Held)
	b.gets(t, 2, red(api.RedEnd, first, 12, 20, 1)) // at the limit, and delivered
	told(t, b.gets(t, 2, red(api.RedPlain, session(2, 2), 0, 1)))
	fatalIf(t, b.e.Sight().Refused != 3, "Refused: %d", b.e.Sight().Refused)
	b.tick(t) // that it was heard is written: its bytes are let go
	fatalIf(t, b.e.Sight().Held != 0, "Held: %d", b.e.Sight().Held)
	b.gets(t, 2, red(api.RedPlain, session(2, 2), 0, 20))

	// Less may be held behind a boot than is held already.
	for _, delivered := range []bool{false, true} {
		stands := []api.Record{recBoot(1, 1), recRed(first, 0, 12, 0, 0)}
		if delivered {
			stands = []api.Record{recBoot(1, 1), recRed(first, 0, 12, 12, 0)}
		}
		b = on(wide, with(c, func(c *api.Config) { c.Hold = 11 })).puts(t, stands...)
		b.boot(t, 0)
		if delivered {
			quiet(t, b, 2, red(api.RedPlain, first, 0, 3), "Late")
		} else {
			told(t, b.gets(t, 2, red(api.RedPlain, first, 0, 3)), noteGone(first, 7, 4))
		}
	}
}

// Sessions imports, delivered ones too.
func TestP144Sessions(t *testing.T) {
	b := begin(t, with(tight(), func(c *api.Config) { c.Sessions = 2 }))
	b.gets(t, 2, red(api.RedPlain, session(2, 1), 0, 5))
	b.gets(t, 3, red(api.RedLast, session(3, 1), 0, 5, 1))
	b.ticks(t, 2)
	quiet(t, b, 2, red(api.RedPlain, session(2, 2), 0, 5), "Refused")
	quiet(t, b, 3, red(api.RedLast, session(3, 2), 0, 5, 1), "Refused")
	told(t, b.gets(t, 3, green(api.GreenPlain, session(3, 2), 0, 5)), noteGreen(session(3, 2), 0, 5, false))
	b.gets(t, 3, acks(session(3, 1), epoch+1)) // it is shut
	b.gets(t, 3, red(api.RedPlain, session(3, 2), 0, 5))
}

// Bytes that are there and differ: what came first stays, and they are counted; not of what was let go.
func TestP144Clash(t *testing.T) {
	s := session(2, 1)
	b := begin(t, usual())
	b.gets(t, 2, red(api.RedPlain, s, 0, 4))
	x := red(api.RedEnd, s, 2, 8, 1)
	x.Data = []byte{0, 0, 9, 9, 9, 9}
	b.counted(t, func() {
		told(t, b.gets(t, 2, x), noteIn(api.NoteRed, s, 7, []byte{wholeRow[0], wholeRow[1], wholeRow[2], wholeRow[3], 9, 9, 9, 9}))
	}, map[string]int{"Clash": 2})
	b.counted(t, func() { b.gets(t, 2, x) }, map[string]int{"Clash": 2})
	b.tick(t)
	b.counted(t, func() { b.gets(t, 2, x) }, nil)

	b = on(1<<12, usual())
	b.boot(t, 0)
	b.gets(t, 2, red(api.RedPlain, s, 0, 4))
	b.leaves(10)
	b.counted(t, func() { b.comes(t, 2, x) }, one("Full")) // it was not taken
	b.frees()
	b.counted(t, func() { b.gets(t, 2, x) }, map[string]int{"Clash": 2})
	x.Data = []byte{0, 0, 0, 0, 0, 0, 0}
	quiet(t, b, 2, x, "Late") // Wrong: of that nothing is counted
}

// The idle timer begins anew with each segment that is taken, red or green, new or not.
func TestP144Idle(t *testing.T) {
	s := session(2, 1)
	for _, x := range []api.Segment{red(api.RedPlain, s, 0, 5), red(api.RedCheck, s, 0, 5, 1), red(api.RedPlain, s, 5, 6), green(api.GreenPlain, s, 9, 10)} {
		b := begin(t, with(usual(), func(c *api.Config) { c.Idle = 9 }))
		b.gets(t, 2, red(api.RedPlain, s, 0, 5))
		notes, _ := b.ticks(t, 8)
		told(t, notes)
		b.gets(t, 2, x)
		notes, _ = b.ticks(t, 8)
		told(t, notes)
		notes, _ = b.tick(t)
		told(t, notes, noteGone(s, 7, 4))
	}
	for _, x := range []api.Segment{serves(red(api.RedPlain, s, 0, 5), 8), acks(s, 9), red(api.RedPlain, session(2, 2), 0, 5)} {
		b := begin(t, with(tight(), func(c *api.Config) { c.Idle = 9 }))
		b.gets(t, 2, red(api.RedPlain, s, 0, 5))
		b.ticks(t, 8)
		b.gets(t, 2, x) // that is no sign of it
		notes, _ := b.tick(t)
		told(t, notes, noteGone(s, 7, 4))
	}
}

// Without room: each Write, refused at one byte less than it takes.
func TestP144RedNoRoom(t *testing.T) {
	s := session(2, 1)
	start := red(api.RedPlain, s, 0, 5)
	for _, c := range []struct {
		ahead []api.Segment
		x     api.Segment
		write []api.Record
	}{
		{nil, start, []api.Record{recRed(s, 0, 5, 0, 0)}},
		{nil, red(api.RedLast, s, 0, 5, 1), []api.Record{recRed(s, 0, 5, 5, 5), recDone(s)}},
		{[]api.Segment{start}, red(api.RedCheck, s, 5, 9, 1), []api.Record{recRed(s, 5, 9, 0, 0)}},
		{[]api.Segment{start}, red(api.RedEnd, s, 4, 5, 1), []api.Record{recRed(s, 4, 5, 5, 0), recDone(s)}},
		{[]api.Segment{start}, red(api.RedEnd, s, 3, 4, 1), []api.Record{recGone(s, 3)}},
		{[]api.Segment{start}, green(api.GreenLast, s, 3, 4), []api.Record{recGone(s, 3)}},
		{[]api.Segment{start}, calls(12, s, 2), []api.Record{recGone(s, 2)}},
	} {
		frames, _ := record.Frame(c.write)
		for _, room := range []int{0, len(frames) - 1} {
			b := on(1<<12, usual())
			b.boot(t, 0)
			for _, x := range c.ahead {
				b.gets(t, 2, x)
			}
			before := len(b.records())
			b.leaves(room)
			b.untouched(t, func() {
				notes, no := b.comes(t, 2, c.x)
				fatalIf(t, len(notes) != 0 || no != 5, "%v %v", notes, no)
			}, one("Full"))
			b.frees()
			b.leaves(len(frames))
			b.gets(t, 2, c.x)
			b.adds(t, before, c.write...)
		}
	}
	b := on(1<<12, usual())
	b.boot(t, 0)
	b.gets(t, 2, red(api.RedLast, s, 0, 5, 1))
	b.leaves(0)
	b.counted(t, func() { b.gets(t, 2, red(api.RedLast, s, 0, 5, 1)) }, nil) // that takes no room
}
