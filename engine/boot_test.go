package engine_test

import (
	"errors"
	"slices"
	"testing"

	"lantern/api"
	"lantern/disk"
	"lantern/engine"
	"lantern/record"
)

// The records that journals are made of.
func recBoot(id, boots int) api.Record {
	return api.Record{Kind: api.RecBoot, Session: session(id, 0), Size: boots}
}

func recNext(n int) api.Record { return api.Record{Kind: api.RecNext, Size: n} }

func recOpen(number, peer, size, red int) api.Record {
	return api.Record{Kind: api.RecOpen, Session: session(1, number), Peer: peer, Service: 7, Size: size, Red: red, Data: wholeRow[:red]}
}

func recRed(s api.Session, from, to, red, size int) api.Record {
	return api.Record{Kind: api.RecRed, Session: s, Service: 7, Offset: from, Red: red, Size: size, Data: wholeRow[from:to]}
}

func recEnd(number, how int) api.Record         { return rec(api.RecEnd, session(1, number), how) }
func recGone(s api.Session, how int) api.Record { return rec(api.RecGone, s, how) }
func recDone(s api.Session) api.Record          { return rec(api.RecDone, s, 0) }
func recHeard(s api.Session) api.Record         { return rec(api.RecHeard, s, 0) }
func recShut(s api.Session) api.Record          { return rec(api.RecShut, s, 0) }
func recTold(number int) api.Record             { return rec(api.RecTold, session(1, number), 0) }

func recTomb(origin int, ends ...int) api.Record {
	return api.Record{Kind: api.RecTomb, Size: origin, Spans: spans(ends...)}
}

func recPast(s api.Session, red, size int) api.Record {
	return api.Record{Kind: api.RecPast, Session: s, Service: 7, Red: red, Size: size}
}

// bootFails wants that error, and that the disk is as it was.
func bootFails(t *testing.T, b *both, now int, want api.Errno) {
	t.Helper()
	before := b.h.Files()
	out, no := b.tryBoot(t, now)
	fatalIf(t, no != want || len(out.Notices)+len(out.Sends) != 0, "Boot: %v, not %v", no, want)
	fatalIf(t, !slices.EqualFunc(before, b.h.Files(), sameFile), "a Boot that fails by %v changed the disk: %v", no, b.h.Files())
}

func TestP141Now(t *testing.T) {
	for _, now := range []int{minInt, -1, api.MaxTick + 1, top, maxInt} {
		bootFails(t, on(wide, usual()), now, 1)
		bootFails(t, on(wide, api.Config{}), now, 1) // that is told first
	}
	for _, now := range []int{0, 1, api.MaxTick - 1, api.MaxTick} {
		b := on(wide, usual())
		told(t, b.boot(t, now).Notices)
		fatalIf(t, b.e.Sight().Now != now, "Now is %d, not %d", b.e.Sight().Now, now)
	}
}

// peers are n of them, from 2 on.
func peers(n int) (l []api.Peer) {
	for i := range n {
		l = append(l, api.Peer{Id: 2 + i, Mtu: 200, Timeout: 10})
	}
	return l
}

func numbers(n int) (l []int) {
	for i := range n {
		l = append(l, i)
	}
	return l
}

func contacts(n, rate int) (l []api.Contact) {
	for range n {
		l = append(l, api.Contact{Peer: 2, To: 9, Rate: rate})
	}
	return l
}

// changes are configurations that may be, and those that may not.
func changes() (may, mayNot []func(*api.Config)) {
	bounded := func(low, high int, set func(*api.Config, int)) {
		for _, n := range []int{low, high} {
			may = append(may, func(c *api.Config) { set(c, n) })
		}
		for _, n := range []int{minInt, -1, low - 1, high + 1, maxInt} {
			mayNot = append(mayNot, func(c *api.Config) { set(c, n) })
		}
	}
	bounded(1, top, func(c *api.Config, n int) {
		c.Id = n
		c.Peers[0].Id, c.Contacts[0].Peer = 5, 5
	})
	bounded(1, top, func(c *api.Config, n int) {
		c.Id = 9
		c.Peers[0].Id, c.Contacts = n, nil
	})
	bounded(80, 4096, func(c *api.Config, n int) { c.Peers[0].Mtu = n })
	bounded(1, 1<<20, func(c *api.Config, n int) { c.Peers[0].Timeout = n })
	bounded(0, top, func(c *api.Config, n int) { c.Services = []int{3, n} })
	bounded(1, 1000, func(c *api.Config, n int) { c.Contacts[0].Rate = n })
	bounded(1, 100, func(c *api.Config, n int) { c.Rules.Retry = n })
	bounded(1, 1000, func(c *api.Config, n int) { c.Rules.Cycles = n })
	bounded(1, 64, func(c *api.Config, n int) { c.Sessions = n })
	bounded(1, 1<<22, func(c *api.Config, n int) { c.Hold = n })
	bounded(1, 1<<20, func(c *api.Config, n int) { c.Idle = n })
	bounded(0, 65536, func(c *api.Config, n int) { c.Every = n })
	bounded(1, 1<<16, func(c *api.Config, n int) { c.Queue = n })
	bounded(1, top, func(c *api.Config, n int) { c.Compact = n })
	may = append(may,
		func(c *api.Config) { c.Peers = peers(8) },
		func(c *api.Config) { c.Services = nil },
		func(c *api.Config) { c.Services = numbers(16) },
		func(c *api.Config) { c.Contacts = nil },
		func(c *api.Config) { c.Contacts = contacts(100, 10) },
		func(c *api.Config) { c.Contacts = []api.Contact{{Peer: 2, From: 1<<40 - 1, To: 1 << 40, Rate: 1}} },
	)
	mayNot = append(mayNot,
		func(c *api.Config) { *c = api.Config{} },
		func(c *api.Config) { c.Peers, c.Contacts = nil, nil },
		func(c *api.Config) { c.Peers = peers(9) },
		func(c *api.Config) { c.Peers = append(peers(3), peers(1)...) },
		func(c *api.Config) { c.Peers = append(c.Peers, api.Peer{Id: 1, Mtu: 200, Timeout: 10}) },
		func(c *api.Config) { c.Peers = append(c.Peers, api.Peer{Id: 3, Mtu: 79, Timeout: 10}) },
		func(c *api.Config) { c.Peers = append(c.Peers, api.Peer{Id: 3, Mtu: 200}) },
		func(c *api.Config) { c.Services = numbers(17) },
		func(c *api.Config) { c.Services = []int{1, 2, 1} },
		func(c *api.Config) { c.Contacts[0].Peer = 1 },
		func(c *api.Config) { c.Contacts[0].Peer = 3 },
		func(c *api.Config) { c.Contacts[0].From = -1 },
		func(c *api.Config) { c.Contacts[0].From = api.MaxTick },
		func(c *api.Config) { c.Contacts[0].To = api.MaxTick + 1 },
		func(c *api.Config) { c.Contacts = contacts(101, 1) },
		func(c *api.Config) { c.Contacts = contacts(100, 11) },
		func(c *api.Config) { c.Contacts = append(c.Contacts, api.Contact{}) },
	)
	return may, mayNot
}

func TestP141Config(t *testing.T) {
	may, mayNot := changes()
	for i, change := range may {
		b := on(wide, with(usual(), change))
		_, no := b.tryBoot(t, 0)
		fatalIf(t, no != ok, "change %d: %v of %+v", i, no, b.c)
	}
	for i, change := range mayNot {
		for _, old := range [][]api.Record{nil, {recBoot(1, 1)}, {recNext(3)}} { // that is told ahead of what the journal has
			b := on(wide, with(usual(), change)).puts(t, old...)
			_, no := b.tryBoot(t, 0)
			fatalIf(t, no != 140, "change %d: %v of %+v", i, no, b.c)
		}
	}
}

func TestP141EmptyDisk(t *testing.T) {
	b := begin(t, usual())
	b.adds(t, 0, recBoot(1, 1))
	s := b.e.State()
	fatalIf(t, !sameState(s, api.State{Id: 1, Boots: 1, Next: 1}), "State: %+v", s)
	frames, _ := record.Frame([]api.Record{recBoot(1, 1)})
	files := b.h.Files()
	fatalIf(t, len(files) != 1 || files[0].Safe != len(frames), "the files: %v", files)
	fatalIf(t, b.e.Sight() != api.Sight{Boots: 1, Next: 1, Journal: len(frames)}, "Sight: %+v", b.e.Sight())
}

// Bytes that are no frame are cut off; what is left of a rewriting is removed.
func TestP141Scan(t *testing.T) {
	whole, _ := record.Frame([]api.Record{recBoot(1, 4), recNext(9)})
	first, _ := record.Frame([]api.Record{recBoot(1, 4)})
	for _, c := range []struct {
		raw         []byte
		boots, next int
	}{
		{nil, 1, 1}, {[]byte{9}, 1, 1}, {whole[:3], 1, 1}, {whole[1:], 1, 1}, {first, 5, 1}, {whole[:len(whole)-1], 5, 1}, {whole, 5, 9}, {append(slices.Clone(whole), 0, 0, 0), 5, 9}, {append(slices.Clone(whole), whole[:9]...), 5, 9},
	} {
		for _, rest := range []bool{false, true} {
			b := on(wide, usual())
			b.hands(func(h *disk.Hand) {
				if rest {
					h.Disk().Append("journal.new", whole)
				}
				h.Disk().Append("journal", c.raw)
				h.Disk().Append("other", []byte("x"))
			})
			told(t, b.boot(t, 0).Notices)
			s := b.e.State()
			fatalIf(t, s.Boots != c.boots || s.Next != c.next || s.Id != 1, "of %v: %+v", c.raw, s)
			fatalIf(t, len(b.h.Files()) != 2, "files: %v", b.h.Files())
		}
	}
}

// Records that don't follow, each kind of refusal: that is Load's error.
func TestP141Load(t *testing.T) {
	two := session(2, 1)
	for _, l := range [][]api.Record{
		{recNext(3)}, {recBoot(1, 1), recBoot(1, 1)}, {recBoot(1, 1), recBoot(2, 2)}, {recBoot(1, 1), recEnd(1, 0)}, {recBoot(1, 1), recDone(two)},
		{recBoot(9, 1), recDone(two)}, {recBoot(1, api.MaxBoots), recDone(two)}, // ahead of what the Id and Boots say
	} {
		bootFails(t, on(wide, usual()).puts(t, l...), 0, 80)
	}
	many := []api.Record{recBoot(1, 1)}
	for i := range 2001 {
		many = append(many, recRed(two, 2*i, 2*i+1, 0, 0))
	}
	bootFails(t, on(wide, usual()).puts(t, many...), 0, 3)
	b := on(wide, usual()).puts(t, many[:2001]...)
	b.boot(t, 0)
	fatalIf(t, b.e.Sight().Held != 2000, "Held: %d", b.e.Sight().Held)
}

func TestP141AnotherId(t *testing.T) {
	for _, id := range []int{2, 3, top} {
		bootFails(t, on(wide, usual()).puts(t, recBoot(id, 1)), 0, 140)
		bootFails(t, on(wide, usual()).puts(t, recBoot(id, api.MaxBoots)), 0, 140)
	}
}

func TestP141Boots(t *testing.T) {
	bootFails(t, on(wide, usual()).puts(t, recBoot(1, api.MaxBoots)), 0, 147)
	b := on(wide, usual()).puts(t, recBoot(1, api.MaxBoots-1), recOpen(1, 2, 5, 5))
	b.boot(t, 0)
	fatalIf(t, b.e.State().Boots != 1<<30, "Boots: %d", b.e.State().Boots)
	b.gets(t, 2, red(api.RedLast, session(2, 1), 0, 3, 9))
	n, _ := b.submit(t, 2, 7, wholeRow[:4], 4)
	_, l := b.tick(t)
	sent(t, l, tells(session(2, 1), 1<<54+1, 9, 0, 3, 0, 3), red(api.RedLast, session(1, 1), 0, 5, 1<<54+1), red(api.RedLast, session(1, n), 0, 4, 1<<54+1))
	b.crash(wide)
	bootFails(t, b, 0, 147)
}

// ways are the ways in which an import can stand in a journal, with what a boot adds and tells: with its peer, and without.
func importWays(s api.Session) []importWay {
	part, all := recRed(s, 0, 3, 0, 0), recRed(s, 0, 5, 5, 0)
	note := replayed(noteIn(api.NoteRed, s, 7, wholeRow[:5]))
	gone := replayed(noteGone(s, 0, 4))
	end := func(l ...api.Record) []api.Record { return l }
	return []importWay{
		{"a part", end(part), nil, end(recGone(s, 4)), nil, &gone, true},
		{"a part, its end known", end(recRed(s, 3, 5, 5, 9)), nil, end(recGone(s, 4)), nil, &gone, true},
		{"a part, in spans", end(part, recRed(s, 4, 5, 5, 5)), nil, end(recGone(s, 4)), nil, &gone, true},
		{"all, its end not known", end(recRed(s, 0, 5, 0, 0)), nil, end(recGone(s, 4)), nil, &gone, true},
		{"whole, without RecDone", end(all), end(recDone(s)), end(recDone(s), recShut(s)), &note, &note, true},
		{"whole, of two, without RecDone", end(part, recRed(s, 2, 5, 5, 5)), end(recDone(s)), end(recDone(s), recShut(s)), &note, &note, true},
		{"delivered", end(all, recDone(s)), nil, end(recShut(s)), &note, &note, true},
		{"heard", end(all, recDone(s), recHeard(s)), nil, end(recShut(s)), nil, nil, true},
		{"past", end(recPast(s, 5, 9)), nil, end(recShut(s)), nil, nil, true},
		{"shut", end(all, recDone(s), recShut(s)), nil, nil, &note, &note, false},
		{"shut and heard", end(all, recDone(s), recShut(s), recHeard(s)), nil, nil, nil, nil, false},
		{"gone", end(recGone(s, 4)), nil, nil, &gone, &gone, false},
		{"gone behind a part", end(part, recGone(s, 4)), nil, nil, &gone, &gone, false},
		{"gone and heard", end(recGone(s, 2), recHeard(s)), nil, nil, nil, nil, false},
	}
}

type importWay struct {
	name          string
	stands        []api.Record
	adds, alone   []api.Record // with its peer, and without
	tells, speaks *api.Notice  // likewise
	there         bool         // with its peer
}

func TestP141Imports(t *testing.T) {
	for _, s := range []api.Session{session(2, 1), session(2, top-1), session(5, 3), session(top, 1)} {
		for _, way := range importWays(s) {
			b := on(wide, usual()).puts(t, append([]api.Record{recBoot(1, 1)}, way.stands...)...)
			adds, note, there := way.alone, way.speaks, 0
			if s.Origin == 2 {
				adds, note = way.adds, way.tells
				if way.there {
					there = 1
				}
			}
			out := b.boot(t, 0)
			b.adds(t, 1+len(way.stands), append([]api.Record{recBoot(1, 2)}, adds...)...)
			if note != nil {
				told(t, out.Notices, *note)
			} else {
				told(t, out.Notices)
			}
			x := b.e.Sight()
			fatalIf(t, x.Imports != there || x.Timers != there, "%v, %s: %+v", s, way.name, x)
			fatalIf(t, b.loose() != 0, "%v, %s: what a boot writes is not safe", s, way.name)
			before := len(b.records())
			b.tick(t)
			if note != nil {
				b.adds(t, before, recHeard(s))
			} else {
				b.adds(t, before)
			}
		}
	}
}

func TestP141Exports(t *testing.T) {
	for _, peer := range []int{2, 3, top} {
		for how := -1; how <= 6; how++ { // -1: not ended
			s := session(1, 4)
			stands := []api.Record{recBoot(1, 1), recOpen(4, peer, 9, 5)}
			if how >= 0 {
				stands = append(stands, recEnd(4, how))
			}
			b := on(wide, usual()).puts(t, stands...)
			out := b.boot(t, 0)
			adds := []api.Record{recBoot(1, 2)}
			switch {
			case how == 0:
				told(t, out.Notices, replayed(note(api.NoteDone, s, 0)))
			case how > 0:
				told(t, out.Notices, replayed(note(api.NoteOff, s, how-1)))
			case peer == 2:
				told(t, out.Notices)
			default:
				adds = append(adds, recEnd(4, 5))
				told(t, out.Notices, replayed(note(api.NoteOff, s, 4)))
			}
			b.adds(t, len(stands), adds...)
			before := len(b.records())
			_, l := b.tick(t)
			if how < 0 && peer == 2 {
				sent(t, l, red(api.RedEnd, s, 0, 5, 2*epoch+1))
				b.adds(t, before)
			} else {
				sent(t, l)
				b.adds(t, before, recTold(4))
			}
		}
	}
}

// crowd is a journal with much in it, of three peers, one of which is gone, in no order.
func crowd() (l []api.Record) {
	l = append(l, recBoot(1, 1), recOpen(3, 2, 300, 300), recOpen(5, 9, 10, 10), recOpen(7, 3, 10, 4), recOpen(8, 2, 1, 1), recEnd(8, 0), recOpen(20, 9, 3, 3), recEnd(20, 3))
	for _, s := range []api.Session{session(3, 2), session(2, 9), session(9, 4), session(2, 1)} {
		l = append(l, recRed(s, 0, 5, 0, 0), recRed(s, 7, 9, 9, 20))
	}
	for _, s := range []api.Session{session(3, 1), session(9, 3), session(2, 5)} {
		l = append(l, recRed(s, 0, 5, 5, 0))
	}
	return append(l, recGone(session(2, 7), 1), recGone(session(9, 9), 5), recDone(session(2, 5)), recHeard(session(2, 5)), recNext(40), recTomb(2, 100, 200))
}

// What is written, told, owed and sent: exports by number, imports by origin and number, the ones of Back behind those of Open.
func TestP141Order(t *testing.T) {
	c := tight()
	c.Sessions, c.Hold = 1, 1 // what is there goes on all the same
	b := on(wide, c).puts(t, crowd()...)
	before := len(crowd())
	out := b.boot(t, 8)
	b.adds(t, before, recBoot(1, 2), recDone(session(3, 1)), recDone(session(9, 3)), recShut(session(9, 3)), recGone(session(9, 4), 4), recEnd(5, 5))
	told(t, out.Notices,
		replayed(note(api.NoteOff, session(1, 5), 4)), replayed(note(api.NoteDone, session(1, 8), 0)), replayed(note(api.NoteOff, session(1, 20), 2)),
		replayed(noteGone(session(2, 7), 0, 1)), replayed(noteIn(api.NoteRed, session(3, 1), 7, wholeRow[:5])),
		replayed(noteIn(api.NoteRed, session(9, 3), 7, wholeRow[:5])), replayed(noteGone(session(9, 4), 0, 4)), replayed(noteGone(session(9, 9), 0, 5)))
	x := b.e.Sight()
	want := api.Sight{Now: 8, Boots: 2, Next: 40, Exports: 2, Imports: 5, Waiting: 7, Timers: 5, Held: 3*7 + 5, Journal: x.Journal}
	fatalIf(t, x != want, "Sight: %+v, not %+v", x, want)
	before = len(b.records())
	notes, l := b.ticks(t, 1)
	told(t, notes)
	b.adds(t, before, recTold(5), recTold(8), recTold(20), recHeard(session(2, 7)), recHeard(session(3, 1)), recHeard(session(9, 3)), recHeard(session(9, 4)), recHeard(session(9, 9)))
	base := 2 * epoch
	sent(t, l, tells(session(3, 1), base+1, 0, 0, 5, 0, 5), tells(session(3, 2), base+1, 0, 0, 9, 0, 5, 7, 9), red(api.RedEnd, session(1, 7), 0, 4, base+1),
		tells(session(2, 1), base+1, 0, 0, 9, 0, 5, 7, 9), tells(session(2, 5), base+1, 0, 0, 5, 0, 5))
	_, l = b.ticks(t, 1)
	end := l[len(l)-1]
	fatalIf(t, end.Type != api.RedLast || end.Session != session(1, 3) || end.Check != base+1 || end.Offset+len(end.Data) != 300 || len(printed(t, end)) > 80, "%+v", end)
}

// Whose rate is 0 at the tick of the boot is held: its timers stand still from the beginning.
func TestP141Held(t *testing.T) {
	c := with(usual(), func(c *api.Config) {
		c.Idle = 2
		c.Contacts = []api.Contact{{Peer: 2, From: 5, To: 7, Rate: 1}, {Peer: 2, From: 20, To: 30, Rate: 1}}
	})
	gone := noteGone(session(2, 1), 7, 4)
	for now, at := range map[int]int{0: 6, 3: 6, 4: 6, 5: 20, 6: 21, 7: 21, 19: 21, 20: 22} {
		b := on(wide, c).puts(t, recBoot(1, 1), recRed(session(2, 1), 0, 5, 0, 0))
		b.boot(t, now)
		for tick := now + 1; tick <= at; tick++ {
			notes, _ := b.tick(t)
			if tick == at {
				told(t, notes, gone)
			} else {
				told(t, notes)
			}
		}
	}
}

// Each room from none on: what the Write finds no room for is tried by a rewriting; if that finds none either, nothing has changed.
func TestP141NoRoom(t *testing.T) {
	past := []api.Record{recBoot(1, 1), recOpen(4, 2, 5, 5)}
	for n := 1; n <= 9; n++ {
		past = append(past, recPast(session(9, n), 5, 5))
	}
	for _, l := range [][]api.Record{nil, {recBoot(1, 1)}, crowd(), past} {
		frames, _ := record.Frame(l)
		answers := map[api.Errno]int{}
		rewritten := false
		for room := 0; room < len(frames)+60; room++ {
			b := on(len(frames)+room, tight()).puts(t, l...)
			before := b.h.Files()
			_, no := b.tryBoot(t, 8)
			answers[no]++
			if no != ok {
				fatalIf(t, no != 5 || !slices.EqualFunc(before, b.h.Files(), sameFile), "%v: %v", no, b.h.Files())
				continue
			}
			fatalIf(t, b.e.Sight().Full != 0, "Full: %d", b.e.Sight().Full)
			_, size, _ := journalOf(b.h)
			rewritten = rewritten || len(l) > 0 && size < len(frames)
			b.ticks(t, 3)
		}
		fatalIf(t, answers[5] == 0 || answers[ok] == 0 || len(answers) != 2, "answers: %v", answers)
		fatalIf(t, rewritten != (len(l) == len(past)), "it was rewritten: %v", rewritten)
	}
}

// The snapshot can be shorter than what is written: then a boot succeeds by it.
func TestP141RewrittenShorter(t *testing.T) {
	l := []api.Record{recBoot(1, 1)}
	for n := 1; n <= 20; n++ {
		l = append(l, recPast(session(9, n), 5, 5))
	}
	b := on(wide, usual()).puts(t, l...)
	written := []api.Record{recBoot(1, 2)}
	for n := 1; n <= 20; n++ {
		written = append(written, recShut(session(9, n)))
	}
	frames, _ := record.Frame(written)
	want := []api.Record{recBoot(1, 2), recTomb(9, 1, 21)}
	short, _ := record.Frame(want)
	for _, room := range []int{0, len(short) - 1, len(short), len(frames) - 1, len(frames)} {
		b = on(1<<12, usual()).puts(t, l...)
		b.leaves(room)
		switch {
		case room < len(short):
			bootFails(t, b, 0, 5)
		case room < len(frames):
			b.boot(t, 0)
			b.adds(t, 0, want...)
			fatalIf(t, b.loose() != 0, "it is not safe")
		default:
			b.boot(t, 0)
			b.adds(t, len(l), written...)
		}
	}
}

// The power goes at each act of a boot, done or not: of one that writes, and of one that must write the journal anew; whatever stays, the next one boots.
func TestP141NoPower(t *testing.T) {
	past := []api.Record{recBoot(1, 29)}
	for n := 1; n <= 20; n++ {
		past = append(past, recPast(session(9, n), 5, 5))
	}
	short, _ := record.Frame([]api.Record{recBoot(1, 30), recTomb(9, 1, 21)})
	whole := append(crowd(), past[0])
	whole[0] = recBoot(1, 28)
	for _, c := range []struct {
		l          []api.Record
		room, acts int
	}{{whole, 1000, 4}, {past, len(short), 5}} { // Remove and Cut; then Append and Sync, or Append, Sync and Rename
		for _, done := range []bool{false, true} {
			for acts := 0; acts <= c.acts; acts++ {
				b := on(1<<13, tight()).puts(t, c.l...)
				b.hands(func(h *disk.Hand) {
					h.Disk().Append("journal.new", []byte{1, 2, 3})
					h.Disk().Append("journal", []byte{1, 2, 3})
				})
				b.leaves(c.room - 6)
				b.hands(func(h *disk.Hand) { h.Arm(acts, done) })
				_, no := b.tryBoot(t, 3)
				fatalIf(t, no != 6 && acts < c.acts || no != ok && acts == c.acts, "the power goes at the act %d: %v", acts, no)
				if no == ok {
					continue
				}
				b.crash(acts % 3)
				b.frees()
				b.boot(t, 4)
				boots := b.e.State().Boots
				fatalIf(t, boots != 30 && boots != 31, "Boots: %d", boots)
			}
		}
	}
}

// A disk that is down answers that, whatever stands there.
func TestP141Down(t *testing.T) {
	h := disk.New(wide)
	h.Arm(0, false)
	h.Disk().Append("x", nil)
	e, out, err := engine.Boot(h.Disk(), usual(), 0)
	fatalIf(t, e != nil || len(out.Notices) != 0 || disk.Number(err) != 6 || !errors.Is(err, disk.ErrDown), "%v %v", e, err)
	_, _, err = engine.Boot(h.Disk(), usual(), -1)
	fatalIf(t, disk.Number(err) != 1, "%v", err)
	_, _, err = engine.Boot(h.Disk(), api.Config{}, 0)
	fatalIf(t, disk.Number(err) != 140, "%v", err)
}

// Boot behind boot: what was told is told again till what is owed is written; of what is written and not safe so many bytes stay as may be.
func TestP141ToldTillWritten(t *testing.T) {
	owes := []api.Record{recTold(1), recHeard(session(2, 1)), recHeard(session(2, 2))}
	want := []api.Notice{replayed(note(api.NoteOff, session(1, 1), 2)), replayed(noteIn(api.NoteRed, session(2, 1), 7, wholeRow[:5])), replayed(noteGone(session(2, 2), 0, 2))}
	frames, _ := record.Frame(owes)
	for keep := 0; keep <= len(frames); keep++ {
		b := on(wide, usual()).puts(t, recBoot(1, 1), recOpen(1, 2, 5, 5), recEnd(1, 3), recRed(session(2, 1), 0, 5, 5, 5), recDone(session(2, 1)), recGone(session(2, 2), 2))
		told(t, b.boot(t, 0).Notices, want...)
		for i := range 3 {
			told(t, b.again(t, wide, i).Notices, want...)
		}
		b.tick(t)
		fatalIf(t, b.loose() != len(frames), "%d bytes are not safe, not %d", b.loose(), len(frames))
		whole, _ := record.Scan(frames[:keep])
		told(t, b.again(t, keep, 4).Notices, want[len(whole):]...)
	}
}

// Each kind of notice is told as it comes to be, once; those that a journal knows of are told again behind each boot, Replayed, till what is owed is written.
func TestP141ToldAndReplayed(t *testing.T) {
	whole, gone := session(2, 1), session(2, 2)
	b := on(1<<13, usual())
	b.boot(t, 0)
	for i := range 3 {
		submitted(t, b, 2, 7, wholeRow[:9], 5, 1+i)
	}
	notes, _ := b.ticks(t, 2)
	told(t, notes, note(api.NoteSent, session(1, 1), 0), note(api.NoteSent, session(1, 2), 0), note(api.NoteSent, session(1, 3), 0))
	told(t, b.gets(t, 2, tells(session(1, 2), 1, 0, 0, 5, 0, 5)), note(api.NoteDone, session(1, 2), 0))
	told(t, b.gets(t, 2, calls(14, session(1, 1), 3)), note(api.NoteOff, session(1, 1), 3))
	told(t, b.gets(t, 2, red(api.RedPlain, gone, 0, 5)), noteIn(api.NoteStart, gone, 7, nil))
	cancelled(t, b, gone, noteGone(gone, 7, 0))
	told(t, b.gets(t, 2, red(api.RedEnd, whole, 0, 5, 1)), noteIn(api.NoteStart, whole, 7, nil), noteIn(api.NoteRed, whole, 7, wholeRow[:5]))
	told(t, b.gets(t, 2, green(api.GreenPlain, whole, 5, 9)), noteGreen(whole, 5, 9, false))
	want := []api.Notice{
		replayed(note(api.NoteOff, session(1, 1), 3)), replayed(note(api.NoteDone, session(1, 2), 0)),
		replayed(noteIn(api.NoteRed, whole, 7, wholeRow[:5])), replayed(noteGone(gone, 0, 0)),
	}
	for range 3 {
		told(t, b.again(t, 0, 9).Notices, want...)
	}
	b.leaves(0)
	notes, _ = b.tick(t) // there is no room for what is owed
	told(t, notes)
	b.frees()
	told(t, b.again(t, wide, 9).Notices, want...)
	notes, _ = b.tick(t)
	told(t, notes)
	told(t, b.again(t, wide, 9).Notices)
	told(t, b.again(t, 0, 9).Notices)
}
