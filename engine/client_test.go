package engine_test

import (
	"slices"
	"testing"

	"lantern/api"
	"lantern/blocks"
	"lantern/record"
)

// refused wants that Submit answers an error and that nothing has changed.
func refused(t *testing.T, b *both, peer, service int, block []byte, red int, want api.Errno) {
	t.Helper()
	b.untouched(t, func() {
		n, no := b.submit(t, peer, service, block, red)
		fatalIf(t, n != 0 || no != want, "%s: %d %v, not %v", b.last, n, no, want)
	}, nil)
}

// submitted wants that Submit answers that number.
func submitted(t *testing.T, b *both, peer, service int, block []byte, red, want int) {
	t.Helper()
	n, no := b.submit(t, peer, service, block, red)
	fatalIf(t, n != want || no != ok, "%s: %d %v, not %d", b.last, n, no, want)
}

func TestP142Peer(t *testing.T) {
	b := begin(t, tight())
	for _, peer := range []int{minInt, -2, 0, 1, 4, 9, top, maxInt} {
		refused(t, b, peer, 7, wholeRow[:3], 3, 142)
		refused(t, b, peer, -1, nil, 5, 142) // that is told first
	}
}

func TestP142Block(t *testing.T) {
	b := begin(t, tight())
	for _, service := range []int{minInt, -1, top + 1, maxInt} {
		refused(t, b, 2, service, wholeRow[:3], 3, 143)
	}
	for _, size := range []int{0, 1, 3, most} {
		for _, r := range []int{minInt, -1, size + 1, top, maxInt} {
			refused(t, b, 2, 7, wholeRow[:size], r, 143)
		}
	}
	refused(t, b, 2, 7, nil, 0, 143)
	refused(t, b, 2, 7, []byte{}, 0, 143)
	long := make([]byte, most+1)
	refused(t, b, 2, 7, long, 0, 143)
	refused(t, b, 2, 7, long, most, 143)
	refused(t, b, 2, 7, long, most+1, 143)
	for i, service := range []int{0, top} { // none of ours, but that is nothing to the sender
		submitted(t, b, 2, service, wholeRow[:3], 3, 1+i)
	}
}

// A block of the greatest size, red or green, is taken.
func TestP142Limits(t *testing.T) {
	for _, r := range []int{0, 1, most - 1, most} {
		b := begin(t, with(usual(), func(c *api.Config) {
			c.Queue, c.Every = 1000, most
			c.Contacts[0].Rate = 1000
		}))
		submitted(t, b, 2, 7, wholeRow, r, 1)
		_, l := b.tick(t)
		var got []byte
		for _, x := range l {
			got = append(got, x.Data...)
		}
		fatalIf(t, !slices.Equal(got, wholeRow), "%d bytes went out", len(got))
	}
}

// What is written: an export with red bytes, or the number alone; it is safe, and the number is given for good.
func TestP142Records(t *testing.T) {
	b := begin(t, usual())
	for i, r := range []int{3, 0, 1, 0} {
		before := len(b.records())
		submitted(t, b, 2, 9, wholeRow[:3], r, 1+i)
		want := recNext(2 + i)
		if r > 0 {
			want = recOpen(1+i, 2, 3, r)
			want.Service = 9
		}
		b.adds(t, before, want)
		fatalIf(t, b.loose() != 0, "it is not safe")
	}
	_, l := b.tick(t)
	base := epoch
	for i := range l {
		l[i].Service = 7
	}
	sent(t, l, red(api.RedLast, session(1, 1), 0, 3, base+1), green(api.GreenLast, session(1, 2), 0, 3), red(api.RedEnd, session(1, 3), 0, 1, base+1), green(api.GreenLast, session(1, 3), 1, 3), green(api.GreenLast, session(1, 4), 0, 3))
	b.again(t, 0, 5)
	fatalIf(t, b.e.Sight().Exports != 2, "green bytes alone are not sent again")
	submitted(t, b, 2, 7, wholeRow[:3], 3, 5)
}

// Sessions exports are there, of whatever kind; one that is closed makes room.
func TestP142Sessions(t *testing.T) {
	b := begin(t, with(tight(), func(c *api.Config) { c.Sessions, c.Queue = 3, 100 }))
	submitted(t, b, 3, 7, wholeRow[:3], 3, 1)
	submitted(t, b, 3, 7, wholeRow[:3], 0, 2)
	submitted(t, b, 2, 7, wholeRow[:4], 2, 3)
	refused(t, b, 2, 7, wholeRow[:3], 3, 144)
	refused(t, b, 2, 7, wholeRow[:3], 0, 144)
	refused(t, b, 2, 7, nil, 0, 143) // that is told first
	b.cancel(t, session(1, 2))
	submitted(t, b, 2, 7, wholeRow[:3], 3, 4)
	refused(t, b, 2, 7, wholeRow[:3], 3, 144)
	b.gets(t, 2, tells(session(1, 3), 9, 0, 0, 2, 0, 2)) // through, but its green bytes wait
	fatalIf(t, b.e.Sight().Exports != 3, "Exports: %d", b.e.Sight().Exports)
	refused(t, b, 2, 7, wholeRow[:3], 3, 144)
	b.ticks(t, 2)
	submitted(t, b, 2, 7, wholeRow[:3], 3, 5)
}

// The first pieces, and what waits for that peer, are as many as Queue, or one more.
func TestP142Queue(t *testing.T) {
	for _, every := range []int{0, 1} {
		for size := 1; size < 400; size += 13 {
			for _, r := range []int{0, size, size / 2} {
				c := with(tight(), func(c *api.Config) { c.Every, c.Sessions = every, 9 })
				pieces, _ := blocks.Cut(session(1, 3), api.Parcel{Service: 7, Size: size, Red: r, Mtu: 80, Every: every}, epoch)
				for more := -1; more <= 0; more++ {
					c.Queue = 2 + len(pieces) + more
					b := begin(t, c)
					submitted(t, b, 3, 7, wholeRow[:3], 3, 1) // waits for another one
					submitted(t, b, 2, 7, wholeRow[:3], 3, 2)
					b.gets(t, 2, calls(12, session(2, 9), 0)) // an answer waits
					if more < 0 {
						refused(t, b, 2, 7, wholeRow[:size], r, 144)
					} else {
						submitted(t, b, 2, 7, wholeRow[:size], r, 3)
					}
				}
			}
		}
	}
}

// Next is MaxNum: that is told behind all else.
func TestP142Next(t *testing.T) {
	c := with(tight(), func(c *api.Config) { c.Sessions = 1 })
	for _, last := range []api.Record{recNext(top - 1), recOpen(top-2, 9, 3, 3)} {
		b := on(wide, c).puts(t, recBoot(1, 1), last)
		b.boot(t, 0)
		submitted(t, b, 2, 7, wholeRow[:3], 3, top-1)
		fatalIf(t, b.e.Sight().Next != top, "Next: %d", b.e.Sight().Next)
		refused(t, b, 9, 7, wholeRow[:3], 3, 142)
		refused(t, b, 2, 7, nil, 0, 143)
		refused(t, b, 2, 7, wholeRow[:3], 3, 144)
		b.cancel(t, session(1, top-1))
		refused(t, b, 2, 7, wholeRow[:3], 3, 3)
		refused(t, b, 2, 7, wholeRow[:3], 0, 3)
		refused(t, b, 2, 7, wholeRow[:450], 450, 144) // more pieces than Queue
	}
	for _, last := range []api.Record{recNext(top), recOpen(top-1, 9, 3, 3)} {
		b := on(wide, c).puts(t, recBoot(1, 1), last)
		b.boot(t, 0)
		refused(t, b, 2, 7, wholeRow[:3], 3, 3)
	}
	b := on(wide, c).puts(t, recBoot(1, 1), recNext(top-1))
	b.boot(t, 0)
	submitted(t, b, 2, 7, wholeRow[:3], 0, top-1)
	b.again(t, 0, 0)
	fatalIf(t, b.e.Sight().Next != top, "Next: %d", b.e.Sight().Next)
	refused(t, b, 2, 7, wholeRow[:3], 0, 3)
}

func TestP142NoRoom(t *testing.T) {
	for _, r := range []int{0, 2, 5} {
		want := recNext(2)
		if r > 0 {
			want = recOpen(1, 2, 5, r)
		}
		frames, _ := record.Frame([]api.Record{want})
		for _, room := range []int{0, 1, len(frames) - 1, len(frames)} {
			b := on(1<<12, usual())
			b.boot(t, 0)
			b.leaves(room)
			if room < len(frames) {
				b.untouched(t, func() {
					n, no := b.submit(t, 2, 7, wholeRow[:5], r)
					fatalIf(t, n != 0 || no != 5, "%d %v", n, no)
				}, one("Full"))
				b.frees()
			}
			submitted(t, b, 2, 7, wholeRow[:5], r, 1)
		}
	}
}

// cancelled wants that Cancel answers these notices.
func cancelled(t *testing.T, b *both, s api.Session, want ...api.Notice) {
	t.Helper()
	got, no := b.cancel(t, s)
	fatalIf(t, no != ok, "%s: %v", b.last, no)
	told(t, got, want...)
}

// stays wants that a session can not be cancelled.
func stays(t *testing.T, b *both, s api.Session) {
	t.Helper()
	b.untouched(t, func() {
		got, no := b.cancel(t, s)
		fatalIf(t, len(got) != 0 || no != 145, "%s: %v %v", b.last, got, no)
	}, nil)
}

func TestP143NoSession(t *testing.T) {
	b := begin(t, usual())
	for _, s := range []api.Session{{}, session(1, 1), session(1, 2), session(2, 1), session(-1, -1), session(0, 1), session(1, 0), session(1, top), session(minInt, maxInt), session(maxInt, minInt), session(top, top)} {
		stays(t, b, s)
	}
	submitted(t, b, 2, 7, wholeRow[:3], 3, 1)
	b.gets(t, 2, red(api.RedPlain, session(2, 1), 0, 3))
	for _, s := range []api.Session{session(1, 2), session(2, 2), session(3, 1), session(1, 0)} {
		stays(t, b, s)
	}
}

// An export, ahead of its going out and behind: it is closed, nothing of it goes out any more but the cancellation.
func TestP143Export(t *testing.T) {
	for ticks := range 3 {
		for _, r := range []int{2, 300} {
			b := begin(t, with(usual(), func(c *api.Config) { c.Contacts[0].Rate = 1 }))
			submitted(t, b, 2, 7, wholeRow[:300], r, 1)
			b.ticks(t, ticks)
			before := len(b.records())
			cancelled(t, b, session(1, 1), note(api.NoteOff, session(1, 1), 0))
			b.adds(t, before, recEnd(1, 1))
			fatalIf(t, b.loose() != 0, "it is not safe")
			x := b.e.Sight()
			fatalIf(t, x.Exports != 0 || x.Waiting != 1 || x.Timers != 0, "Sight: %+v", x)
			stays(t, b, session(1, 1))
			_, l := b.tick(t)
			sent(t, l, calls(12, session(1, 1), 0))
			b.adds(t, before+1, recTold(1))
			stays(t, b, session(1, 1))
		}
	}
}

func TestP143GreenAlone(t *testing.T) {
	for ticks := range 2 {
		b := begin(t, with(usual(), func(c *api.Config) { c.Contacts[0].Rate = 1 }))
		submitted(t, b, 2, 7, wholeRow[:300], 0, 1)
		b.ticks(t, ticks)
		before := len(b.records())
		cancelled(t, b, session(1, 1), note(api.NoteOff, session(1, 1), 0))
		fatalIf(t, b.e.Sight().Exports != 0 || b.e.Sight().Waiting != 1, "Sight: %+v", b.e.Sight())
		stays(t, b, session(1, 1))
		_, l := b.tick(t)
		sent(t, l, calls(12, session(1, 1), 0))
		b.adds(t, before) // nothing was owed
		told(t, b.again(t, wide, 9).Notices)
	}
	b := begin(t, usual())
	submitted(t, b, 2, 7, wholeRow[:300], 0, 1)
	b.tick(t) // all of it has gone out
	stays(t, b, session(1, 1))
}

// Its red part is through, its green bytes wait: it can not be cancelled.
func TestP143Through(t *testing.T) {
	b := begin(t, with(usual(), func(c *api.Config) { c.Contacts[0].Rate = 1 }))
	submitted(t, b, 2, 7, wholeRow[:300], 3, 1)
	told(t, b.gets(t, 2, tells(session(1, 1), 1, 0, 0, 3, 0, 3)), note(api.NoteDone, session(1, 1), 0))
	stays(t, b, session(1, 1))
	b.ticks(t, 2) // the acknowledgement, a piece
	stays(t, b, session(1, 1))
	notes, l := b.tick(t)
	fatalIf(t, len(l) != 1 || l[0].Type != api.GreenLast, "%v", l)
	told(t, notes, note(api.NoteSent, session(1, 1), 0))
	stays(t, b, session(1, 1))
}

// An export that goes on behind a boot.
func TestP143Again(t *testing.T) {
	b := on(wide, usual()).puts(t, recBoot(1, 1), recOpen(4, 2, 9, 5))
	b.boot(t, 0)
	cancelled(t, b, session(1, 4), note(api.NoteOff, session(1, 4), 0))
	_, l := b.tick(t)
	sent(t, l, calls(12, session(1, 4), 0))
}

func TestP143Import(t *testing.T) {
	s := session(2, 1)
	for _, x := range []api.Segment{red(api.RedPlain, s, 0, 5), red(api.RedCheck, s, 0, 5, 1), red(api.RedLast, s, 2, 5, 1)} {
		b := begin(t, usual())
		b.gets(t, 2, x)
		before := len(b.records())
		cancelled(t, b, s, noteGone(s, 7, 0))
		b.adds(t, before, recGone(s, 0))
		fatalIf(t, b.loose() != 0, "it is not safe")
		fatalIf(t, b.e.Sight().Imports+b.e.Sight().Timers+b.e.Sight().Held != 0, "Sight: %+v", b.e.Sight())
		stays(t, b, s)
		_, l := b.tick(t)
		sent(t, l, calls(14, s, 0))
		b.adds(t, before+1, recHeard(s))
		stays(t, b, s)
		b.counted(t, func() { told(t, b.gets(t, 2, x)) }, one("Late"))
	}
	b := begin(t, usual())
	b.gets(t, 2, red(api.RedEnd, s, 0, 5, 1))
	stays(t, b, s) // it is delivered
	b.tick(t)
	stays(t, b, s)
	b.again(t, wide, 4)
	stays(t, b, s)
}

func TestP143NoRoom(t *testing.T) {
	s := session(2, 1)
	b := on(1<<12, usual())
	b.boot(t, 0)
	submitted(t, b, 2, 7, wholeRow[:300], 30, 1)
	submitted(t, b, 2, 7, wholeRow[:300], 0, 2)
	b.gets(t, 2, red(api.RedCheck, s, 0, 5, 1))
	b.leaves(11)
	for _, one := range []api.Session{session(1, 1), s} {
		b.untouched(t, func() {
			got, no := b.cancel(t, one)
			fatalIf(t, len(got) != 0 || no != 5, "%v %v", got, no)
		}, map[string]int{"Full": 1})
	}
	cancelled(t, b, session(1, 2), note(api.NoteOff, session(1, 2), 0)) // that takes no room
	b.frees()
	cancelled(t, b, session(1, 1), note(api.NoteOff, session(1, 1), 0))
	cancelled(t, b, s, noteGone(s, 7, 0))
}
