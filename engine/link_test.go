package engine_test

import (
	"bytes"
	"fmt"
	"math/rand/v2"
	"slices"
	"testing"

	"lantern/api"
	"lantern/disk"
)

// flight is a segment under way.
type flight struct {
	to, at int
	raw    []byte
}

// sentBlock is one that was submitted, or may have been.
type sentBlock struct {
	service, red int
	data         []byte
	sure         bool // its Submit was answered
}

// link has an engine at each end; what goes over it is lost, delayed and doubled by a rule.
type link struct {
	ends   [2]*both
	now    int
	flying []flight
	fate   func(end int) []int // in how many ticks copies of what this end sends come
	blocks map[api.Session][]sentBlock
	lost   int
	most   int // segments that waited for a peer at a time
}

func fits(id, other int, change func(*api.Config)) api.Config {
	return with(usual(), func(c *api.Config) {
		c.Id, c.Peers[0].Id, c.Contacts[0].Peer = id, other, other
		if change != nil {
			change(c)
		}
	})
}

func newLink(t *testing.T, change func(*api.Config), fate func(int) []int) *link {
	k := &link{fate: fate, blocks: map[api.Session][]sentBlock{}}
	for i := range k.ends {
		k.ends[i] = on(1<<18, fits(1+i, 2-i, change))
		k.ends[i].boot(t, 0)
	}
	return k
}

// submits submits a block at an end.
func (k *link) submits(t *testing.T, end, service int, data []byte, red int) (int, api.Errno) {
	b := k.ends[end]
	next := b.e.Sight().Next
	n, no := b.submit(t, 2-end, service, data, red)
	s := session(1+end, next)
	if no == ok || no == 6 {
		k.blocks[s] = append(k.blocks[s], sentBlock{service, red, bytes.Clone(data), no == ok})
	}
	fatalIf(t, no == ok && n != next, "the number %d, not %d", n, next)
	return n, no
}

// heard wants what T1 and T2 say of what an end tells.
func (k *link) heard(t *testing.T, end int, notes []api.Notice) {
	for _, n := range notes {
		is := func(f func(sentBlock) bool) bool { return slices.ContainsFunc(k.blocks[n.Session], f) }
		switch n.Kind {
		case api.NoteRed:
			fatalIf(t, n.Session.Origin != 2-end || !is(func(b sentBlock) bool { return b.service == n.Service && bytes.Equal(b.data[:b.red], n.Data) }), "delivered, and never submitted so: %+v", n)
		case api.NoteGreen:
			fatalIf(t, !is(func(b sentBlock) bool {
				end := n.Offset + len(n.Data)
				return b.service == n.Service && n.Offset >= b.red && end <= len(b.data) && bytes.Equal(b.data[n.Offset:end], n.Data) && n.Last == (end == len(b.data))
			}), "green, and never submitted so: %+v", n)
		case api.NoteDone:
			p := k.ends[1-end].told[n.Session]
			fatalIf(t, p == nil || p.all[api.NoteRed] == 0, "done, and not delivered at the other end: %+v", n)
		}
	}
}

// does does something at an end, and hears what is told by it.
func (k *link) does(t *testing.T, end int, do func() []api.Notice) { k.heard(t, end, do()) }

// tick lets a tick go by at both ends.
func (k *link) tick(t *testing.T) {
	k.now++
	var later []flight
	due := k.flying
	k.flying = nil
	for _, f := range due {
		if f.at > k.now {
			later = append(later, f)
			continue
		}
		if b := k.ends[f.to]; b.e != nil && !b.m.dead {
			k.does(t, f.to, func() []api.Notice { notes, _ := b.receive(t, 2-f.to, f.raw); return notes })
		}
	}
	k.flying = append(later, k.flying...)
	for end, b := range k.ends {
		if b.e == nil || b.m.dead {
			continue
		}
		k.most = max(k.most, b.e.Sight().Waiting)
		out, _ := b.tryTick(t)
		k.heard(t, end, out.Notices)
		for _, s := range out.Sends {
			fatalIf(t, s.Peer != 2-end, "a Send to %d", s.Peer)
			copies := k.fate(end)
			if len(copies) == 0 {
				k.lost++
			}
			for _, in := range copies {
				k.flying = append(k.flying, flight{1 - end, k.now + in, s.Bytes})
			}
		}
	}
}

// open are the exports and imports at both ends.
func (k *link) open() (n int) {
	for _, b := range k.ends {
		n += b.e.Sight().Exports + b.e.Sight().Imports
	}
	return n
}

// puts is how many segments a session of n bytes puts into lines at most, and how often a timer of it runs out.
func puts(n, retry, cycles int) (p, v int) {
	g := n + cycles + 1
	x, r := n+g, retry+1
	return n + g*n + x*r + 9*x*n*r + 12*r, x*r + x*n*r + 4*r
}

// bound is that of T4, of blocks of so many bytes, by the greater ones of both ends.
func (k *link) bound(d int, sizes ...int) int {
	a, b := k.ends[0].c, k.ends[1].c
	timeout, idle, sum := max(a.Peers[0].Timeout, b.Peers[0].Timeout), max(a.Idle, b.Idle), 0
	for _, n := range sizes {
		p, v := puts(n, max(a.Rules.Retry, b.Rules.Retry), max(a.Rules.Cycles, b.Rules.Cycles))
		sum += p*(d+2) + v*timeout + idle
	}
	return 2*sum + 100
}

// closes wants that all is closed within so many ticks.
func (k *link) closes(t *testing.T, within int) {
	t.Helper()
	from := k.now
	for k.open() > 0 {
		fatalIf(t, k.now-from > within, "behind %d ticks something is there still: %+v %+v", within, k.ends[0].e.Sight(), k.ends[1].e.Sight())
		k.tick(t)
	}
}

// calm wants that nothing goes on any more: what waits and runs comes to its end, too.
func (k *link) calm(t *testing.T) {
	t.Helper()
	for range 2000 {
		busy := len(k.flying)
		for _, b := range k.ends {
			busy += b.e.Sight().Waiting + b.e.Sight().Timers
		}
		if busy == 0 {
			break
		}
		k.tick(t)
	}
	k.tick(t)
	for _, b := range k.ends {
		x, s := b.e.Sight(), b.e.State()
		fatalIf(t, x.Exports+x.Imports+x.Waiting+x.Timers+x.Held != 0, "it does not end: %+v", x)
		fatalIf(t, len(s.Outgoing)+len(s.Incoming) != 0, "the journal remembers more than it must: %+v", s)
	}
}

// Nothing is lost: of each kind of block all is told, once, at both ends.
func TestT5NothingLost(t *testing.T) {
	t.Parallel()
	for _, every := range []int{0, 1, 2} {
		for _, size := range []int{1, 2, 150, 1000, 5000} {
			for _, r := range []int{0, 1, size / 2, size - 1, size} {
				for _, delay := range []int{1, 7} {
					k := newLink(t, func(c *api.Config) { c.Every, c.Peers[0].Timeout = every, 60 }, func(int) []int { return []int{delay} })
					k.submits(t, 0, 7, wholeRow[:size], r)
					k.submits(t, 1, 7, wholeRow[:size], r)
					k.closes(t, 200)
					k.calm(t)
					for end, b := range k.ends {
						here, there := b.told[session(1+end, 1)], k.ends[1-end].told[session(1+end, 1)]
						red, green := min(r, 1), (min(size-r, 1))
						fatalIf(t, here.first[api.NoteSent] != 1 || here.first[api.NoteDone] != red || here.first[api.NoteOff] != 0, "size %d, red %d: %v", size, r, here)
						fatalIf(t, there.first[api.NoteStart] != red || there.first[api.NoteRed] != red || there.first[api.NoteGone] != 0 || (there.first[api.NoteGreen] > 0) != (green == 1), "size %d, red %d: %v", size, r, there)
					}
				}
			}
		}
	}
}

// T5: fewer than Retry segments are lost, each loss at each place.
func TestT5EachLoss(t *testing.T) {
	t.Parallel()
	const retry = 4
	for _, every := range []int{0, 1} {
		for first := 0; first < 14; first++ {
			for gap := 1; gap < 9; gap++ {
				n := 0
				fate := func(int) []int {
					n++
					if i := n - 1 - first; i >= 0 && i%gap == 0 && i/gap < retry-1 {
						return nil
					}
					return []int{1}
				}
				k := newLink(t, func(c *api.Config) { c.Every, c.Rules.Retry, c.Peers[0].Timeout, c.Idle = every, retry, 40, 100000 }, fate)
				k.submits(t, 0, 7, wholeRow[:700], 600)
				delivered(t, k, retry)
			}
		}
	}
}

// delivered wants that all blocks with a red part are delivered, and that is told at both ends, within the bound of T5.
func delivered(t *testing.T, k *link, retry int) {
	t.Helper()
	c := k.ends[0].c
	within := (retry + 1) * c.Peers[0].Timeout
	for _, l := range k.blocks {
		p, _ := puts(len(l[0].data), c.Rules.Retry, c.Rules.Cycles)
		within += p * 5
	}
	missing := func() int {
		n := 0
		for s, l := range k.blocks {
			here, there := k.ends[s.Origin-1].told[s], k.ends[2-s.Origin].told[s]
			if l[0].red > 0 && (here == nil || there == nil || here.first[api.NoteDone] == 0 || there.first[api.NoteRed] == 0) {
				n++
			}
		}
		return n
	}
	for from := k.now; missing() > 0; {
		fatalIf(t, k.now-from > min(within, 20000), "behind %d ticks %d blocks are not through", k.now-from, missing())
		k.tick(t)
	}
	fatalIf(t, k.lost >= retry, "%d were lost", k.lost)
	fatalIf(t, c.Peers[0].Timeout <= 2*3+2*k.most+4, "the run does not fit: %d wait", k.most)
	for s := range k.blocks {
		for _, b := range k.ends {
			p := b.told[s]
			fatalIf(t, p != nil && p.all[api.NoteOff]+p.all[api.NoteGone] > 0, "%v is cancelled", s)
		}
	}
}

// T5: several blocks both ways, what is under way is doubled and turned over; fewer than Retry are lost.
func TestT5ByChance(t *testing.T) {
	t.Parallel()
	for seed := range uint64(24) {
		r := lot{rand.New(rand.NewPCG(seed, 5))}
		const retry = 6
		left := retry - 1
		fate := func(int) []int {
			if left > 0 && r.IntN(8) == 0 {
				left--
				return nil
			}
			if r.IntN(5) == 0 {
				return []int{1 + r.IntN(3), 1 + r.IntN(3)}
			}
			return []int{1 + r.IntN(3)}
		}
		every := r.IntN(3)
		k := newLink(t, func(c *api.Config) {
			c.Every, c.Rules, c.Peers[0].Timeout, c.Idle, c.Queue = every, api.Rules{Retry: retry, Cycles: 100}, 200, 3000, 1000
		}, fate)
		for range 1 + r.IntN(5) {
			size := 1 + r.IntN(900)
			k.submits(t, r.IntN(2), 7, wholeRow[r.IntN(50):][:size], r.among(size, size, r.IntN(size+1)))
			for range r.IntN(5) {
				k.tick(t)
			}
		}
		delivered(t, k, retry)
		k.closes(t, 10000)
	}
}

// T4: whatever is lost, all is closed within the bound: how much of it ever, and all from one tick on.
func TestT4ItEnds(t *testing.T) {
	t.Parallel()
	for seed := range uint64(200) {
		r := lot{rand.New(rand.NewPCG(seed, 4))}
		worse := r.among(0, 20, 50, 80, 100)
		deaf := -1 // all is lost that this end sends
		fate := func(end int) []int {
			if end == deaf || r.IntN(100) < worse {
				return nil
			}
			return [][]int{{1}, {1 + r.IntN(4)}, {1 + r.IntN(4), 1 + r.IntN(4)}}[r.IntN(3)]
		}
		c := func(c *api.Config) {
			c.Every, c.Rules = r.IntN(3), api.Rules{Retry: 1 + r.IntN(4), Cycles: 1 + r.IntN(5)}
			c.Peers[0].Timeout, c.Idle, c.Sessions, c.Hold = 1+r.IntN(20), 1+r.IntN(60), 1+r.IntN(4), r.among(50, 300, 5000)
			c.Contacts[0].Rate = 1 + r.IntN(6)
			c.Compact = r.among(100, 1000, 100000)
		}
		k := newLink(t, c, fate)
		var sizes []int
		for range 1 + r.IntN(6) {
			size := 1 + r.IntN(700)
			end := r.IntN(2)
			if _, no := k.submits(t, end, r.among(7, 7, 7, 9), wholeRow[:size], r.among(0, size, size, r.IntN(size+1))); no == ok {
				sizes = append(sizes, size)
			}
			for range r.IntN(12) {
				k.tick(t)
			}
			if r.IntN(5) == 0 {
				s := session(1+r.IntN(2), 1+r.IntN(3))
				k.does(t, end, func() []api.Notice { notes, _ := k.ends[end].cancel(t, s); return notes })
			}
		}
		deaf = r.among(-1, -1, 0, 1)
		k.closes(t, min(k.bound(4, sizes...), 20000))
		k.calm(t)
	}
}

// T1 to T3: the power goes at either end, at any act, again and again, with whatever stays; boots behind it.
func TestT1PowerAndLosses(t *testing.T) {
	t.Parallel()
	for seed := range uint64(70) {
		r := lot{rand.New(rand.NewPCG(seed, 1))}
		fate := func(int) []int {
			switch n := r.IntN(12); {
			case n < 2:
				return nil
			case n < 4:
				return []int{1 + r.IntN(6), 1 + r.IntN(6)}
			}
			return []int{1 + r.IntN(3)}
		}
		k := newLink(t, func(c *api.Config) {
			c.Every, c.Rules = int(seed%3), api.Rules{Retry: 5, Cycles: 10}
			c.Peers[0].Timeout, c.Idle, c.Compact = 8, 80, []int{100, 400, 100000}[seed%3]
		}, fate)
		given := map[api.Session]bool{}
		for step := range 260 {
			end := r.IntN(2)
			b := k.ends[end]
			switch n := r.IntN(30); {
			case b.e == nil || b.m.dead:
				if r.IntN(4) == 0 {
					b.crash(r.among(0, r.IntN(100), wide))
					if r.IntN(3) == 0 {
						b.hands(func(h *disk.Hand) { h.Arm(int(seed)%4, step%2 == 0) })
					}
					out, _ := b.tryBoot(t, k.now)
					k.heard(t, end, out.Notices)
				}
			case n < 3 && step < 200:
				size := 1 + r.IntN(400)
				from := r.IntN(100)
				if num, no := k.submits(t, end, 7, wholeRow[from:][:size], r.among(size, size, 0, r.IntN(size+1))); no == ok {
					s := session(1+end, num)
					fatalIf(t, given[s], "%v is given twice", s)
					given[s] = true
				}
			case n < 4:
				s := session(1+r.IntN(2), 1+r.IntN(6))
				k.does(t, end, func() []api.Notice { notes, _ := b.cancel(t, s); return notes })
			case n < 7 && step < 200:
				acts, done := r.IntN(5), r.IntN(2) == 0
				b.hands(func(h *disk.Hand) { h.Arm(acts, done) })
			case n < 8:
				b.crash(r.among(0, r.IntN(100), wide))
				k.heard(t, end, b.boot(t, k.now).Notices)
			default:
				k.tick(t)
			}
		}
		for _, b := range k.ends { // from here on no power goes
			b.crash(0)
			b.boot(t, k.now)
		}
		k.closes(t, 20000)
		k.calm(t)
	}
}

// A link that is open by turns: nothing runs out while it is shut, and all comes in the end.
func TestT5OpenByTurns(t *testing.T) {
	t.Parallel()
	for _, on := range []int{1, 3} {
		for _, off := range []int{1, 20, 200} {
			var l []api.Contact
			for at := 5; len(l) < 30; at += on + off {
				l = append(l, api.Contact{From: at, To: at + on, Rate: 4})
			}
			k := newLink(t, func(c *api.Config) {
				c.Peers[0].Timeout, c.Idle = 12, 40
				for i := range l {
					l[i].Peer = c.Peers[0].Id
				}
				c.Contacts = slices.Clone(l)
			}, func(int) []int { return []int{1} })
			k.submits(t, 0, 7, wholeRow[:900], 800)
			k.submits(t, 1, 7, wholeRow[:500], 500)
			for range 30 * (on + off) {
				k.tick(t)
			}
			for end := range 2 {
				p := k.ends[end].told[session(1+end, 1)]
				fatalIf(t, p == nil || p.first[api.NoteDone] != 1, "%d open, %d shut: %v", on, off, p)
			}
		}
	}
}

// T6: whatever bytes come, nothing breaks, and no more is held than may be.
func TestT6WhateverComes(t *testing.T) {
	t.Parallel()
	for seed := range uint64(60) {
		r := lot{rand.New(rand.NewPCG(seed, 6))}
		c := r.drawn()
		b := on(3000, c)
		b.boot(t, 0)
		for range 250 {
			from, x := r.segment(1)
			raw := printed(t, x)
			for range r.IntN(3) {
				raw[r.IntN(len(raw))] = byte(r.IntN(256))
			}
			if r.IntN(8) == 0 {
				raw = raw[:r.IntN(len(raw))]
			}
			before, files := b.e.Sight(), b.h.Files()
			_, no := b.receive(t, from, raw)
			if no >= 20 && no < 30 || no == 2 {
				before.Bad++
				fatalIf(t, b.e.Sight() != before || !slices.EqualFunc(files, b.h.Files(), sameFile), "what is no segment changes more than a counter")
			}
			s := b.e.Sight()
			fatalIf(t, s.Held > c.Hold || s.Imports > c.Sessions || s.Journal > 3000, "too much is held: %+v", s)
			if r.IntN(6) == 0 {
				b.tryTick(t)
			}
		}
	}
}

// What two runs of the same calls tell is the same.
func TestW2TheSameAgain(t *testing.T) {
	t.Parallel()
	var first string
	for range 4 {
		r := lot{rand.New(rand.NewPCG(9, 2))}
		fate := func(int) []int { return [][]int{nil, {1}, {1, 3}, {2}}[r.IntN(4)] }
		k := newLink(t, func(c *api.Config) { c.Rules.Retry = 9 }, fate)
		var text string
		k.submits(t, 0, 7, wholeRow[:900], 700)
		k.submits(t, 1, 7, wholeRow[:900], 900)
		k.submits(t, 1, 7, wholeRow[:300], 0)
		for range 200 {
			k.tick(t)
			text += fmt.Sprint(k.flying, k.ends[0].e.Sight(), k.ends[1].e.State())
		}
		fatalIf(t, first != "" && text != first, "another run, and something else is told")
		first = text
	}
}
