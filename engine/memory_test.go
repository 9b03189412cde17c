package engine_test

import (
	"bytes"
	"math/rand/v2"
	"runtime"
	"slices"
	"testing"
	"weak"

	"lantern/api"
	"lantern/disk"
	"lantern/engine"
)

// roomy is a copy of a list with spare room, all of it marked.
func roomy[T any](l []T, mark T) []T {
	out := make([]T, len(l)+3)
	for i := range out {
		out[i] = mark
	}
	copy(out, l)
	return out[:len(l)]
}

// whole is a list with its spare room.
func whole[T any](l []T) []T { return l[:cap(l)] }

// fill writes over a list, and its spare room.
func fill[T any](l []T, mark T) {
	for i := range whole(l) {
		whole(l)[i] = mark
	}
}

func copyOfOut(o api.Out) api.Out {
	o.Notices, o.Sends = slices.Clone(o.Notices), slices.Clone(o.Sends)
	for i := range o.Notices {
		o.Notices[i].Data = bytes.Clone(o.Notices[i].Data)
	}
	for i := range o.Sends {
		o.Sends[i].Bytes = bytes.Clone(o.Sends[i].Bytes)
	}
	return o
}

// spoil writes over all of an answer, spare room too, one list behind the other, and wants that no list that is still to come changes by that.
func spoil(t *testing.T, o api.Out) {
	t.Helper()
	want := copyOfOut(o)
	for i := range o.Notices {
		fatalIf(t, !sameNotice(o.Notices[i], want.Notices[i]), "the notice %d was written over", i)
		fill(o.Notices[i].Data, 0xee)
	}
	for i := range o.Sends {
		fatalIf(t, !sameSend(o.Sends[i], want.Sends[i]), "the Send %d was written over", i)
		fill(o.Sends[i].Bytes, 0xdd)
	}
	fill(o.Notices, api.Notice{Kind: 99})
	fill(o.Sends, api.Send{Peer: 99})
}

// spoilState writes over all of a state.
func spoilState(s api.State) {
	for i := range s.Outgoing {
		fill(s.Outgoing[i].Data, 0xcc)
	}
	for i := range s.Incoming {
		fill(s.Incoming[i].Data, 0xcc)
		fill(s.Incoming[i].Have, span(7, 8))
	}
	for i := range s.Tombs {
		fill(s.Tombs[i].Spans, span(7, 8))
	}
	fill(s.Outgoing, api.Outgoing{Peer: 99})
	fill(s.Incoming, api.Incoming{How: 99})
	fill(s.Tombs, api.Tomb{Origin: 99})
}

// guarded is an engine that is called with lists that have spare room, and are written over behind the call; so is what it answers, when it was copied.
type guarded struct {
	*engine.Engine
	t *testing.T
}

func (g guarded) bytes(b []byte, do func([]byte)) {
	g.t.Helper()
	in := roomy(b, 77)
	before := bytes.Clone(whole(in))
	do(in)
	fatalIf(g.t, !bytes.Equal(whole(in), before), "what was handed in is changed")
	fill(in, 0xaa)
}

func (g guarded) out(o api.Out) api.Out {
	g.t.Helper()
	c := copyOfOut(o)
	spoil(g.t, o)
	spoilState(g.State())
	return c
}

// boots boots with a configuration that is written over behind that.
func boots(t *testing.T, h *disk.Hand, c api.Config, now int) (guarded, api.Out) {
	t.Helper()
	c.Peers, c.Services, c.Contacts = roomy(c.Peers, api.Peer{Id: 98}), roomy(c.Services, 98), roomy(c.Contacts, api.Contact{Peer: 98})
	peers, services, contacts := slices.Clone(whole(c.Peers)), slices.Clone(whole(c.Services)), slices.Clone(whole(c.Contacts))
	e, out, err := engine.Boot(h.Disk(), c, now)
	fatalIf(t, err != nil, "Boot: %v", err)
	fatalIf(t, !slices.Equal(whole(c.Peers), peers) || !slices.Equal(whole(c.Services), services) || !slices.Equal(whole(c.Contacts), contacts), "Boot changed the configuration")
	fill(c.Peers, api.Peer{Id: 97, Mtu: 1})
	fill(c.Services, 97)
	fill(c.Contacts, api.Contact{Peer: 97})
	g := guarded{e, t}
	return g, g.out(out)
}

// Rows of calls by chance: written over or not, what is handed in and answered makes no difference to what comes later.
func TestW6WrittenOver(t *testing.T) {
	t.Parallel()
	for seed := range uint64(120) {
		r := lot{rand.New(rand.NewPCG(seed, 96))}
		c := r.drawn()
		h := disk.New(1 << 15)
		g, _ := boots(t, h, c, 0)
		m, _, _ := bootModel(disk.New(1<<15).Disk(), c, 0)
		for range 120 {
			var got, want api.Out
			var err error
			var no api.Errno
			switch n := r.IntN(10); {
			case n < 3:
				got, err = g.Tick()
				want, no = m.tick()
			case n < 5:
				size, peer := 1+r.IntN(150), r.among(2, 3)
				red := r.among(0, size, r.IntN(size+1))
				g.bytes(wholeRow[:size], func(b []byte) { _, got, err = g.Submit(peer, 7, b, red) })
				_, want, no = m.submit(peer, 7, wholeRow[:size], red)
			default:
				from, x := r.segment(1)
				raw := printed(t, x)
				g.bytes(raw, func(b []byte) { got, err = g.Receive(from, b) })
				want, no = m.receive(from, raw)
			}
			got = g.out(got)
			fatalIf(t, disk.Number(err) != no || !sameOut(got, want), "seed %d: %+v %v, not %+v %v", seed, got, err, want, no)
			fatalIf(t, g.Sight() != m.sight() || !sameState(g.State(), m.state()), "seed %d: %+v, not %+v", seed, g.Sight(), m.sight())
		}
	}
}

// What a boot tells is memory of its own.
func TestW6BootWrittenOver(t *testing.T) {
	b := on(wide, tight()).puts(t, crowd()...)
	g, out := boots(t, b.h, b.c, 8)
	m, want, _ := bootModel(b.own.Disk(), b.c, 8)
	fatalIf(t, !sameOut(out, want), "%+v, not %+v", out, want)
	for range 40 {
		got, _ := g.Tick()
		want, _ := m.tick()
		got = g.out(got)
		fatalIf(t, !sameOut(got, want) || g.Sight() != m.sight() || !sameState(g.State(), m.state()), "%+v, not %+v", got, want)
	}
}

// A state that was told stays as it was told, whatever comes; so does that of an engine that is dead.
func TestW6StateStays(t *testing.T) {
	b := begin(t, usual())
	submitted(t, b, 2, 7, wholeRow[:50], 50, 1)
	b.gets(t, 2, red(api.RedPlain, session(2, 1), 0, 5))
	s := b.e.State()
	b.gets(t, 2, red(api.RedPlain, session(2, 1), 7, 9))
	b.cancel(t, session(1, 1))
	fatalIf(t, len(s.Outgoing) != 1 || s.Outgoing[0].Ended || !slices.Equal(s.Incoming[0].Have, spans(0, 5)), "a state that was told has changed: %+v", s)
	b.hands(func(h *disk.Hand) { h.Arm(0, false) })
	b.tryTick(t)
	want := b.e.State()
	spoilState(b.e.State())
	fatalIf(t, !sameState(want, b.e.State()), "dead, it hands out its own memory")
}

// Two engines side by side have nothing to do with one another.
func TestW6SideBySide(t *testing.T) {
	t.Parallel()
	for seed := range uint64(60) {
		r := lot{rand.New(rand.NewPCG(seed, 62))}
		var two [2]*both
		for i := range two {
			two[i] = on(1<<15, r.drawn())
			two[i].boot(t, i)
		}
		for range 120 { // each is held against a model of its own
			b := two[r.IntN(2)]
			r.call(b)(t, b)
			if b.e == nil {
				b.boot(t, 0)
			}
		}
	}
}

// gone tells whether nobody holds what a pointer points at.
func gone[T any](at weak.Pointer[T]) bool {
	for range 3 {
		runtime.GC()
	}
	return at.Value() == nil
}

func bare(t *testing.T, room int, c api.Config) (*engine.Engine, *disk.Hand) {
	t.Helper()
	h := disk.New(room)
	e, _, err := engine.Boot(h.Disk(), c, 0)
	fatalIf(t, err != nil, "Boot: %v", err)
	return e, h
}

func submittedBlock(t *testing.T, e *engine.Engine, red int) weak.Pointer[byte] {
	block := row(5000)
	_, _, err := e.Submit(2, 7, block, red)
	fatalIf(t, err != nil, "Submit: %v", err)
	return weak.Make(&block[0])
}

func receivedBytes(t *testing.T, e *engine.Engine, x api.Segment) weak.Pointer[byte] {
	raw := printed(t, x)
	_, err := e.Receive(2, raw)
	fatalIf(t, err != nil, "Receive: %v", err)
	return weak.Make(&raw[0])
}

// Neither blocks nor bytes that are handed in are kept.
func TestW6NotKept(t *testing.T) {
	e, h := bare(t, wide, usual())
	for _, red := range []int{0, 2500, 5000} {
		fatalIf(t, !gone(submittedBlock(t, e, red)), "a block is kept, %d bytes of it red", red)
	}
	s := session(2, 1)
	for _, x := range []api.Segment{red(api.RedPlain, s, 0, 2000), red(api.RedCheck, s, 2000, 4000, 1), red(api.RedEnd, s, 4000, 5000, 2), green(api.GreenLast, s, 5000, 7000)} {
		fatalIf(t, !gone(receivedBytes(t, e, x)), "bytes that came are kept, type %d", x.Type)
	}
	runtime.KeepAlive(e)
	runtime.KeepAlive(h)
}

// heap is how many bytes are held.
func heap() int {
	runtime.GC()
	runtime.GC()
	var m runtime.MemStats
	runtime.ReadMemStats(&m)
	return int(m.HeapAlloc)
}

// What is over leaves nothing behind: sessions by the hundred, each of 60000 bytes, of which the journal is written anew.
func TestW6NoMoreIsKept(t *testing.T) {
	c := with(usual(), func(c *api.Config) {
		c.Peers[0].Mtu, c.Hold, c.Compact = 4096, 1<<17, 1000
		c.Contacts[0].Rate = 50
	})
	e, h := bare(t, 1<<19, c)
	must := func(_ api.Out, err error) { t.Helper(); fatalIf(t, err != nil, "%v", err) }
	round := func(n int) {
		s := session(2, n)
		number, out, err := e.Submit(2, 7, wholeRow[:60000], 60000)
		must(out, err)
		for at := 0; at < 60000; at += 4000 {
			x := red(api.RedPlain, s, at, at+4000)
			if at == 56000 {
				x = red(api.RedLast, s, at, at+4000, 1)
			}
			must(e.Receive(2, printed(t, x)))
		}
		must(e.Tick())
		must(e.Receive(2, printed(t, tells(session(1, number), 1, 0, 0, 60000, 0, 60000))))
		must(e.Receive(2, printed(t, acks(s, epoch+1))))
		must(e.Tick())
		must(e.Tick())
	}
	for n := 1; n <= 20; n++ {
		round(n)
	}
	before := heap()
	for n := 21; n <= 120; n++ {
		round(n)
	}
	grown := heap() - before
	fatalIf(t, grown > 1<<18, "%d bytes more are held", grown)
	x := e.Sight()
	fatalIf(t, x.Exports+x.Imports+x.Waiting+x.Timers+x.Held != 0 || x.Journal > 1000, "Sight: %+v", x)
	runtime.KeepAlive(h)
}

// An engine that is dead holds what State tells, and no more.
func TestW6DeadHoldsNoMore(t *testing.T) {
	before := heap()
	var dead []*engine.Engine
	for range 40 {
		e, h := bare(t, wide, with(usual(), func(c *api.Config) { c.Queue = 1000 }))
		e.Submit(2, 7, wholeRow, 0) // green bytes, which the journal does not have
		h.Arm(0, false)
		_, _, err := e.Submit(2, 7, wholeRow, most)
		fatalIf(t, disk.Number(err) != 6, "%v", err)
		dead = append(dead, e)
	}
	grown := heap() - before
	fatalIf(t, grown > 40*most/4, "%d bytes are held", grown)
	runtime.KeepAlive(dead)
}
