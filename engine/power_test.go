package engine_test

import (
	"bytes"
	"errors"
	"fmt"
	"math/rand/v2"
	"slices"
	"testing"

	"lantern/api"
	"lantern/disk"
	"lantern/record"
	"lantern/table"
)

// busy is the configuration of the plays below: all that an engine does happens within a few ticks.
func busy() api.Config {
	return with(tight(), func(c *api.Config) {
		c.Sessions, c.Hold, c.Queue, c.Compact, c.Idle = 4, 100, 20, 260, 6
		c.Peers[0].Timeout, c.Peers[1].Timeout = 1, 2
	})
}

// fullPlay is a play in which each kind of Write is done at least once.
func fullPlay() (l []call) {
	tick := ticking(1)
	add := func(more ...call) { l = append(l, more...) }
	in := func(x api.Segment) call { return receives(2, x) }
	a, g, c, d, e := session(2, 1), session(2, 2), session(2, 3), session(2, 4), session(3, 1)
	add(submits(2, 7, 150, 100), in(red(api.RedPlain, a, 0, 4)), tick, in(tells(session(1, 1), 1, epoch+1, 0, 100, 0, 60)), tick, in(red(api.RedCheck, a, 6, 9, 1)), tick)
	add(in(tells(session(1, 1), 2, epoch+2, 0, 100, 60, 100)), in(red(api.RedEnd, a, 4, 9, 2, epoch+1)), tick, in(acks(a, epoch+1)), tick)
	add(submits(3, 7, 20, 0), submits(2, 7, 20, 20), tick, in(green(api.GreenLast, a, 9, 12)), in(acks(a, epoch+2)), tick)
	add(cancels(session(1, 3)), in(red(api.RedPlain, g, 0, 5)), in(red(api.RedEnd, g, 2, 3, 1)), tick, in(calls(13, session(1, 3), 0)), tick)
	add(in(serves(red(api.RedPlain, c, 0, 5), 9)), in(red(api.RedCheck, d, 0, 5, 1)), tick, tick, tick, tick, tick, tick, tick, tick)
	add(receives(3, red(api.RedLast, e, 0, 5, 1)), submits(2, 7, 30, 30), receives(3, calls(12, e, 1)), in(calls(14, session(1, 4), 3)), tick, tick)
	add(in(red(api.RedLast, session(2, 8), 0, 9, 1)), in(red(api.RedPlain, session(2, 9), 0, 9)), in(calls(12, session(2, 9), 5)), submits(2, 7, 5, 5))
	for range 10 {
		add(tick)
	}
	add(in(red(api.RedLast, session(2, 10), 0, 9, 1)), tick, in(acks(session(2, 10), epoch+1)), tick)
	return l
}

// The full play has all that it is to have.
func TestFullPlay(t *testing.T) {
	b := on(1<<15, busy())
	b.boot(t, 0)
	for _, c := range fullPlay() {
		c(t, b)
	}
	for kind, n := range b.m.kinds {
		fatalIf(t, n == 0 && kind != api.RecTomb && kind != api.RecPast, "no record of the kind %d is written: %v", kind, b.m.kinds)
	}
}

// drawnPlay is one by chance.
func drawnPlay(seed uint64, length int) (c api.Config, l []call) {
	r := lot{rand.New(rand.NewPCG(seed, 147))}
	c = r.drawn()
	for range length {
		switch n := r.IntN(20); {
		case n < 6:
			l = append(l, ticking(1))
		case n < 9:
			size := 1 + r.IntN(150)
			l = append(l, submits(r.among(2, 3), 7, size, r.among(0, size, r.IntN(size+1))))
		case n < 10:
			l = append(l, cancels(session(1+r.IntN(2), 1+r.IntN(4))))
		default:
			from, x := r.segment(1)
			l = append(l, receives(from, x))
		}
	}
	return c, l
}

// eachPlay goes through the plays.
func eachPlay(many int, length int, visit func(name string, c api.Config, l []call)) {
	visit("the full play", busy(), fullPlay())
	for seed := range uint64(many) {
		c, l := drawnPlay(seed, length)
		visit(fmt.Sprintf("the play %d", seed), c, l)
	}
}

// copyOf are disks as they are, with what is safe on them.
func (b *both) copyOf() *both {
	x := on(1<<15, b.c)
	for i, from := range []*disk.Hand{b.h, b.own} {
		d := []*disk.Hand{x.h, x.own}[i].Disk()
		for _, f := range from.Files() {
			d.Append(f.Name, f.Bytes[:f.Safe])
			d.Sync(f.Name)
			d.Append(f.Name, f.Bytes[f.Safe:])
		}
	}
	for s, p := range b.told {
		page := *p
		x.told[s] = &page
	}
	return x
}

// deadIs wants what is said of an engine beneath which the power went.
func deadIs(t *testing.T, b *both, before api.Sight, state api.State) {
	t.Helper()
	fatalIf(t, b.e.Sight() != before || !sameState(b.e.State(), state), "dead, it tells %+v, not %+v", b.e.Sight(), before)
	files := b.h.Files()
	for range 2 {
		n, no := b.submit(t, 2, 7, wholeRow[:5], 5)
		fatalIf(t, n != 0 || no != 141, "Submit: %d %v", n, no)
		_, no = b.submit(t, 99, 7, nil, 0)
		fatalIf(t, no != 141, "Submit: %v", no)
		for _, s := range []api.Session{{}, session(1, 1), session(2, 1)} {
			_, no = b.cancel(t, s)
			fatalIf(t, no != 141, "Cancel: %v", no)
		}
		for _, from := range []int{2, 99} {
			for _, raw := range [][]byte{nil, {255}, printed(t, calls(12, session(2, 1), 0))} {
				_, no = b.receive(t, from, raw)
				fatalIf(t, no != 141, "Receive: %v", no)
			}
		}
		_, no = b.tryTick(t)
		fatalIf(t, no != 141, "Tick: %v", no)
	}
	fatalIf(t, b.e.Sight() != before || !slices.EqualFunc(files, b.h.Files(), sameFile), "dead, it changes something")
}

// backAgain wants what T3 says: what a boot comes to is what the records that stand whole in the journal come to, with those of the boot behind them; what was safe stands first among them, or, if the power went as the journal was written anew, just what was written then.
func backAgain(t *testing.T, b *both, safe, anew []api.Record, keep, now int) {
	t.Helper()
	b.crash(keep)
	l, _, _ := journalOf(b.h)
	left, _ := record.Frame(l)
	first, _ := record.Frame(safe)
	other, _ := record.Frame(anew)
	fatalIf(t, !bytes.HasPrefix(left, first) && !bytes.Equal(left, other), "of %d records that were safe not all are among the %d that are left", len(safe), len(l))
	b.boot(t, now)
	own := b.m.atBoot(stateOf(t, l))
	want := stateOf(t, append(slices.Clone(l), own...))
	fatalIf(t, !sameState(want, b.e.State()), "behind the boot: %+v, not %+v", b.e.State(), want)
	b.adds(t, len(l), own...)
}

func stateOf(t *testing.T, l []api.Record) api.State {
	t.Helper()
	x, _, e := table.Load(l)
	fatalIf(t, e != ok, "the journal's records don't follow: %v", e)
	return x.State()
}

// safeRecords are those that a loss of power cannot take.
func safeRecords(h *disk.Hand) (l []api.Record) {
	for _, f := range h.Files() {
		if f.Name == "journal" {
			l, _ = record.Scan(f.Bytes[:f.Safe])
		}
	}
	return l
}

// The power goes at each act of a play, done or not; with each number of bytes that can stay a boot goes on from there, with the rest of the play.
func TestP148PowerAtEachAct(t *testing.T) {
	t.Parallel()
	eachPlay(7, 60, func(name string, c api.Config, l []call) {
		for _, done := range []bool{false, true} {
			for acts := 0; ; acts++ {
				b := on(1<<15, c)
				b.boot(t, 0)
				b.hands(func(h *disk.Hand) { h.Arm(acts, done) })
				place := 0
				var before api.Sight
				var state api.State
				var safe []api.Record
				for place < len(l) && !b.m.dead {
					before, state, safe = b.e.Sight(), b.e.State(), safeRecords(b.h)
					l[place](t, b)
					place++
				}
				if !b.m.dead {
					fatalIf(t, acts < 9, "%s has %d acts", name, acts)
					break
				}
				deadIs(t, b, before, state)
				for keep := 0; keep <= b.loose(); keep++ {
					again := b.copyOf()
					backAgain(t, again, safe, b.m.t.Snapshot(), keep, before.Now)
					if keep%7 == 0 || keep == b.loose() {
						plays(t, again, l[place:min(place+12, len(l))])
					} else {
						again.tryTick(t)
					}
				}
			}
		}
	})
}

// The power goes twice, and three times, at acts close to each other: in a boot, too.
func TestP148PowerAgainAndAgain(t *testing.T) {
	t.Parallel()
	eachPlay(3, 40, func(name string, c api.Config, l []call) {
		for acts := range 40 {
			for second := range 6 {
				b := on(1<<15, c)
				b.boot(t, 0)
				b.hands(func(h *disk.Hand) { h.Arm(acts, second%2 == 0) })
				for i := 0; i < len(l); i++ {
					l[i](t, b)
					for n := 0; b.e == nil || b.m.dead; n++ {
						b.crash([]int{0, 5, wide}[n%3])
						if n == 0 {
							b.hands(func(h *disk.Hand) { h.Arm(second, second%3 == 0) })
						}
						b.tryBoot(t, i)
					}
				}
			}
		}
	})
}

// Each Write of a play finds no room, once: at none, and at one byte less than it, and those ahead of it in that call, take.
func TestP145NoRoomAtEachWrite(t *testing.T) {
	t.Parallel()
	eachPlay(7, 60, func(name string, c api.Config, l []call) {
		b := on(1<<15, c)
		b.boot(t, 0)
		met := 0
		for place, one := range l {
			one(t, b)
			rooms := []int{0, 17, 60}
			sum := 0
			for _, n := range b.m.wrote {
				sum += n
				rooms = append(rooms, sum-1, sum)
			}
			slices.Sort(rooms)
			for _, room := range slices.Compact(rooms) {
				if len(b.m.wrote) == 0 && room > 0 && place%5 != 0 {
					continue
				}
				met += shortPlay(t, c, l, place, room)
			}
		}
		fatalIf(t, met < 8, "%s: %d times there was no room", name, met)
	})
}

// shortPlay plays with little room at one place; it tells how often there was too little.
func shortPlay(t *testing.T, c api.Config, l []call, place, room int) int {
	b := on(1<<15, c)
	b.boot(t, 0)
	plays(t, b, l[:place])
	before := b.e.Sight().Full
	b.leaves(room)
	l[place](t, b)
	b.frees()
	full := b.e.Sight().Full - before
	plays(t, b, l[place+1:min(place+9, len(l))])
	return full
}

// No room for a long time: all calls go on, and behind it all that was owed is written.
func TestP145NoRoomForLong(t *testing.T) {
	t.Parallel()
	eachPlay(15, 80, func(name string, c api.Config, l []call) {
		for _, room := range []int{0, 12, 40} {
			b := on(1<<15, c)
			b.boot(t, 0)
			plays(t, b, l[:len(l)/3])
			b.leaves(room)
			plays(t, b, l[len(l)/3:2*len(l)/3])
			b.frees()
			plays(t, b, l[2*len(l)/3:])
		}
	})
}

// A loss of power that is not met by an act is met by the next one that there is.
func TestP148DownBetween(t *testing.T) {
	b := begin(t, usual())
	submitted(t, b, 2, 7, wholeRow[:5], 5, 1)
	b.hands(func(h *disk.Hand) { h.Arm(0, false) })
	b.tick(t)                            // nothing is written
	b.gets(t, 2, acks(session(2, 1), 1)) // nor here
	b.gets(t, 2, calls(15, session(2, 1), 0))
	before, state := b.e.Sight(), b.e.State()
	_, no := b.comes(t, 2, tells(session(1, 1), 1, 0, 0, 5, 0, 5))
	fatalIf(t, no != 6, "%v", no)
	deadIs(t, b, before, state)
}

// A checkpoint without a new byte syncs what is not safe, and nothing else: on that the power can go, too.
func TestP148DownAtASync(t *testing.T) {
	s := session(2, 1)
	for _, done := range []bool{false, true} {
		b := begin(t, usual())
		b.gets(t, 2, red(api.RedCheck, s, 0, 5, 1))
		b.hands(func(h *disk.Hand) { h.Arm(0, done) })
		b.gets(t, 2, red(api.RedCheck, s, 0, 5, 1)) // all is safe: no act
		fatalIf(t, b.h.Down(), "it is down")
		b.crash(wide)
		b.boot(t, 0)
		b.gets(t, 2, red(api.RedPlain, s, 5, 9))
		b.hands(func(h *disk.Hand) { h.Arm(0, done) })
		before, state := b.e.Sight(), b.e.State()
		_, no := b.comes(t, 2, red(api.RedCheck, s, 0, 5, 1))
		fatalIf(t, no != 6, "%v", no)
		deadIs(t, b, before, state)
		b.crash(0)
		b.boot(t, 0)
		want := 5
		if done {
			want = 9
		}
		fatalIf(t, b.e.Sight().Held != want, "Held: %d", b.e.Sight().Held)
	}
}

// The power goes as an import is to be shut: nothing of that call is told, and all is as it was ahead of it.
func TestP148DownAsItIsShut(t *testing.T) {
	s := session(2, 1)
	for _, done := range []bool{false, true} {
		for _, x := range shutters(s) {
			b := begin(t, usual())
			b.gets(t, 2, red(api.RedEnd, s, 0, 3, 1))
			b.tick(t)
			b.gets(t, 2, x.ahead)
			b.hands(func(h *disk.Hand) { h.Arm(0, done) })
			before, state := b.e.Sight(), b.e.State()
			notes, no := b.comes(t, 2, x.x)
			fatalIf(t, no != 6 || len(notes) != 0, "%v %v", notes, no)
			deadIs(t, b, before, state)
			b.again(t, wide, 3)
			there := 1
			if done {
				there = 0
			}
			fatalIf(t, b.e.Sight().Imports != there, "%d imports", b.e.Sight().Imports)
		}
	}
}

// The error is, or wraps, the disk's.
func TestW8Errors(t *testing.T) {
	b := on(1<<12, usual())
	b.boot(t, 0)
	b.leaves(0)
	_, _, err := b.e.Submit(2, 7, wholeRow[:5], 5)
	fatalIf(t, !errors.Is(err, disk.ErrFull) || err.Error() == "", "%v", err)
	b.frees()
	b.h.Arm(0, false)
	_, _, err = b.e.Submit(2, 7, wholeRow[:5], 5)
	fatalIf(t, !errors.Is(err, disk.ErrDown) || err.Error() == "", "%v", err)
	_, err = b.e.Tick()
	var no api.Errno
	fatalIf(t, !errors.As(err, &no) || no != api.ErrEngineDead, "%v", err)
}
