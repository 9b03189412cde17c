package world_test

import (
	"math/rand/v2"
	"slices"
	"testing"

	"lantern/api"
	"lantern/disk"
	"lantern/engine"
	"lantern/world"
)

// many are n events that may be, and do nothing.
func many(n int) []api.Event { return slices.Repeat([]api.Event{lose()}, n) }

func TestP151TooManyEvents(t *testing.T) {
	usual().takes(t, many(2000)...)
	for _, n := range []int{2001, 5000} {
		usual().refuses(t, 2, many(n)...)
		usual().refuses(t, 2, make([]api.Event, n)...)
	}
}

func TestP151Rooms(t *testing.T) {
	for _, n := range []int{0, 1, 10, 11, 100000, top - 1, top} {
		usual().rooms(n, 100).takes(t)
		usual().rooms(100, n).takes(t)
		usual().rooms(n, n).takes(t)
	}
	for _, n := range []int{minInt, -top, -1, top + 1, maxInt} {
		usual().rooms(n, 100).refuses(t, 1)
		usual().rooms(100, n).refuses(t, 1)
		usual().rooms(n, n).refuses(t, 1, ticks(1))
	}
}

// A room of MaxNum is room for all that is played.
func TestP151GreatestRooms(t *testing.T) {
	usual().rooms(top, top).tells(t, `0 a ok 1/1 a sent 1:1/1 a sends 1/2 b start 1:1 service 7/2 b red 1:1 service 7 "x"/2 b sends 1/3 a done 1:1/3 a sends 1/`, says(0, "x"), ticks(4))
}

// peers are n of them, from 11 on.
func peers(n int) (l []api.Peer) {
	for i := range n {
		l = append(l, api.Peer{Id: 11 + i, Mtu: 200, Timeout: 10})
	}
	return l
}

func numbers(n int) (l []int) {
	for i := range n {
		l = append(l, i)
	}
	return l
}

func contacts(n, peer, rate int) (l []api.Contact) {
	for range n {
		l = append(l, api.Contact{Peer: peer, To: 9, Rate: rate})
	}
	return l
}

// changes are configurations that may be, and those that may not, at whichever end.
func changes() (may, mayNot []func(*api.Config)) {
	bounded := func(low, high int, set func(*api.Config, int)) {
		for _, n := range []int{low, high} {
			may = append(may, func(c *api.Config) { set(c, n) })
		}
		for _, n := range []int{minInt, -1, low - 1, high + 1, maxInt} {
			mayNot = append(mayNot, func(c *api.Config) { set(c, n) })
		}
	}
	bounded(3, top, func(c *api.Config, n int) {
		if n == 2 {
			n = 0 // that is the other one's
		}
		c.Id = n
	})
	bounded(1, top, func(c *api.Config, n int) { c.Id, c.Peers[0].Id, c.Contacts = 9, n, nil })
	bounded(80, 4096, func(c *api.Config, n int) { c.Peers[0].Mtu = n })
	bounded(1, 1<<20, func(c *api.Config, n int) { c.Peers[0].Timeout = n })
	bounded(0, top, func(c *api.Config, n int) { c.Services = []int{3, n} })
	bounded(1, 1000, func(c *api.Config, n int) { c.Contacts[0].Rate = n })
	bounded(1, 100, func(c *api.Config, n int) { c.Rules.Retry = n })
	bounded(1, 1000, func(c *api.Config, n int) { c.Rules.Cycles = n })
	bounded(1, 64, func(c *api.Config, n int) { c.Sessions = n })
	bounded(1, 1<<22, func(c *api.Config, n int) { c.Hold = n })
	bounded(1, 1<<20, func(c *api.Config, n int) { c.Idle = n })
	bounded(0, 65536, func(c *api.Config, n int) { c.Every = n })
	bounded(1, 1<<16, func(c *api.Config, n int) { c.Queue = n })
	bounded(1, top, func(c *api.Config, n int) { c.Compact = n })
	may = append(may,
		func(c *api.Config) { c.Peers, c.Contacts = peers(8), nil },
		func(c *api.Config) { c.Peers = append(c.Peers, peers(7)...) },
		func(c *api.Config) { c.Services = nil },
		func(c *api.Config) { c.Services = numbers(16) },
		func(c *api.Config) { c.Contacts = nil },
		func(c *api.Config) { c.Contacts = contacts(100, c.Peers[0].Id, 10) },
		func(c *api.Config) { c.Contacts[0].From, c.Contacts[0].To = 1<<40-1, 1<<40 },
	)
	mayNot = append(mayNot,
		func(c *api.Config) { *c = api.Config{} },
		func(c *api.Config) { *c = api.Config{Id: c.Id} },
		func(c *api.Config) { c.Peers, c.Contacts = nil, nil },
		func(c *api.Config) { c.Peers, c.Contacts = peers(9), nil },
		func(c *api.Config) { c.Peers = append(c.Peers, peers(8)...) },
		func(c *api.Config) { c.Peers = append(c.Peers, c.Peers[0]) },
		func(c *api.Config) { c.Peers = append(c.Peers, api.Peer{Id: c.Id, Mtu: 200, Timeout: 10}) },
		func(c *api.Config) { c.Peers = append(c.Peers, api.Peer{Id: 30, Mtu: 79, Timeout: 10}) },
		func(c *api.Config) { c.Peers = append(c.Peers, api.Peer{Id: 30, Mtu: 200}) },
		func(c *api.Config) { c.Services = numbers(17) },
		func(c *api.Config) { c.Services = []int{1, 2, 1} },
		func(c *api.Config) { c.Contacts[0].Peer = c.Id },
		func(c *api.Config) { c.Contacts[0].Peer = 30 },
		func(c *api.Config) { c.Contacts[0].From = -1 },
		func(c *api.Config) { c.Contacts[0].From = api.MaxTick },
		func(c *api.Config) { c.Contacts[0].To = api.MaxTick + 1 },
		func(c *api.Config) { c.Contacts = contacts(101, c.Peers[0].Id, 1) },
		func(c *api.Config) { c.Contacts = contacts(100, c.Peers[0].Id, 11) },
		func(c *api.Config) { c.Contacts = append(c.Contacts, api.Contact{}) },
	)
	return may, mayNot
}

func TestP151Configs(t *testing.T) {
	may, mayNot := changes()
	for who := range 2 {
		for i, change := range may {
			s := usual().at(who, change)
			_, no := world.Run(s.c, s.room, []api.Event{ticks(3)})
			fatalIf(t, no != ok, "change %d at %d: error %d of %+v", i, who, no, s.c[who])
		}
		for i, change := range mayNot {
			s := usual().at(who, change)
			for _, room := range []int{0, 100, top} {
				_, no := world.Run(s.c, [2]int{room, room}, nil)
				fatalIf(t, no != 140, "change %d at %d: error %d of %+v", i, who, no, s.c[who])
			}
		}
	}
	for _, change := range mayNot {
		usual().with(change).refuses(t, 140)
	}
}

// Whether a configuration may be is as the engine has it: several changes at a time.
func TestP151AsTheEngineHasIt(t *testing.T) {
	may, mayNot := changes()
	some := 0
	for seed := range uint64(2000) {
		r := rand.New(rand.NewPCG(seed, 151))
		s := usual()
		for range 1 + r.IntN(4) {
			l := may
			if r.IntN(8) == 0 {
				l = mayNot
			}
			s = s.at(r.IntN(2), func(c *api.Config) {
				if len(c.Peers) > 0 && len(c.Contacts) > 0 {
					l[r.IntN(len(l))](c)
				}
			})
		}
		want := ok
		for _, c := range s.c {
			if _, _, err := engine.Boot(disk.New(1000).Disk(), c, 0); disk.Number(err) == 140 {
				want = 140
			}
		}
		if s.c[0].Id == s.c[1].Id {
			want = 140
		}
		_, no := world.Run(s.c, s.room, nil)
		fatalIf(t, no != want, "error %d, not %d, of %+v", no, want, s)
		if want != ok {
			some++
		}
	}
	fatalIf(t, some < 200 || some > 1800, "%d of 2000 may not be", some)
}

func TestP151SameIds(t *testing.T) {
	for _, id := range []int{1, 2, 9, top} {
		s := usual().with(func(c *api.Config) { c.Id, c.Peers[0].Id, c.Contacts[0].Peer = id, 5, 5 })
		s.refuses(t, 140)
		s.refuses(t, 140, ticks(0))
		s.rooms(0, 0).refuses(t, 140)
		s.rooms(-1, 0).refuses(t, 1)
		s.at(1, func(c *api.Config) { c.Id = 6 }).takes(t) // neither is the other's peer: that may be
	}
}

// base is an event of each kind, and of each of both fates.
func base() []api.Event {
	return []api.Event{submits(0, 7, 1, []byte("x")), cancels(0, 0, 1), ticks(1), crash(0, 0, 0, 0), boots(0), injects(0, 1), lose(), copies(1, 1)}
}

// field is one of an event: how it is set, and from where to where its numbers may go, for each event of base.
type field struct {
	name string
	set  func(*api.Event, int)
	may  [8]api.Span
}

func fields() []field {
	upTo := func(n int) api.Span { return api.Span{To: n} }
	zero, who, number, data, thousand := upTo(0), upTo(1), upTo(top), upTo(65536), api.Span{From: 1, To: 1000}
	return []field{
		{"Who", func(x *api.Event, n int) { x.Who = n }, [8]api.Span{who, who, zero, who, who, who, zero, zero}},
		{"A", func(x *api.Event, n int) { x.A = n }, [8]api.Span{number, upTo(1), thousand, number, zero, zero, {From: 1, To: 1}, zero}},
		{"B", func(x *api.Event, n int) { x.B = n }, [8]api.Span{number, number, zero, number, zero, zero, zero, thousand}},
		{"C", func(x *api.Event, n int) { x.C = n }, [8]api.Span{zero, zero, zero, upTo(1), zero, zero, zero, {From: 1, To: 3}}},
		{"Data", func(x *api.Event, n int) { x.Data = make([]byte, n) }, [8]api.Span{data, zero, zero, zero, zero, data, zero, zero}},
	}
}

// Each field of each kind of event, at its limits and beyond.
func TestP151EachField(t *testing.T) {
	for i, x := range base() {
		usual().takes(t, x)
		for _, f := range fields() {
			tries := []int{0, 1, 2, 3, 4, 999, 1000, 1001, 65535, 65536, 65537}
			if f.name != "Data" {
				tries = append(tries, minInt, -2, -1, top-1, top, top+1, maxInt)
			}
			for _, n := range tries {
				y := x
				f.set(&y, n)
				want := ok
				if n < f.may[i].From || n > f.may[i].To {
					want = 150
				}
				fatalIf(t, mayBe(y) != (want == ok), "%s %d of %+v: the tests disagree", f.name, n, x)
				for _, script := range [][]api.Event{{y}, {x, y}, {y, x}, {ticks(1), y, x}} {
					_, no := world.Run(usual().c, usual().room, script)
					fatalIf(t, no != want, "%s %d of %+v: error %d, not %d", f.name, n, x, no, want)
				}
			}
		}
	}
}

// mayBe is the chapter's table once more, row by row.
func mayBe(x api.Event) bool {
	who := x.Who == 0 || x.Who == 1
	number := func(n int) bool { return n >= 0 && n <= top }
	none := len(x.Data) == 0
	bare := x.Who == 0 && none
	switch x.Kind {
	case 1:
		return who && number(x.A) && number(x.B) && x.C == 0 && len(x.Data) <= 65536
	case 2:
		return who && (x.A == 0 || x.A == 1) && number(x.B) && x.C == 0 && none
	case 3:
		return bare && x.A >= 1 && x.A <= 1000 && x.B == 0 && x.C == 0
	case 4:
		return who && number(x.A) && number(x.B) && (x.C == 0 || x.C == 1) && none
	case 5:
		return who && x.A == 0 && x.B == 0 && x.C == 0 && none
	case 6:
		return who && x.A == 0 && x.B == 0 && x.C == 0 && len(x.Data) <= 65536
	case 7:
		lost := x.A == 1 && x.B == 0 && x.C == 0
		return bare && (lost || x.A == 0 && x.B >= 1 && x.B <= 1000 && x.C >= 1 && x.C <= 3)
	}
	return false
}

// All events whose numbers are small, and some that are not.
func TestP151EveryEvent(t *testing.T) {
	tries := []int{-1, 0, 1, 2, 4, 1000, 1001, top, top + 1}
	some := 0
	for kind := -1; kind <= 9; kind++ {
		for _, who := range []int{-1, 0, 1, 2} {
			for _, a := range tries {
				for _, b := range tries {
					for _, c := range []int{-1, 0, 1, 3, 4} {
						for _, n := range []int{0, 1} {
							x := api.Event{Kind: kind, Who: who, A: a, B: b, C: c, Data: make([]byte, n)}
							if kind == api.DoTick && a > 2 && mayBe(x) {
								continue // that is long
							}
							_, no := world.Run(usual().c, usual().room, []api.Event{x})
							fatalIf(t, (no == ok) != mayBe(x) || no != ok && no != 150, "error %d of %+v", no, x)
							if no == ok {
								some++
							}
						}
					}
				}
			}
		}
	}
	fatalIf(t, some < 200, "%d events may be", some)
}

func TestP151NoKind(t *testing.T) {
	for _, kind := range []int{minInt, -1, 0, 8, 9, 99, maxInt} {
		usual().refuses(t, 150, api.Event{Kind: kind})
		usual().refuses(t, 150, ticks(1), api.Event{Kind: kind, A: 1}, ticks(1))
	}
}

// A nil Data and an empty one are the same.
func TestW5NoData(t *testing.T) {
	for _, x := range base() {
		if len(x.Data) > 0 {
			continue
		}
		x.Data = make([]byte, 0, 5)
		usual().takes(t, x)
	}
	usual().takes(t, api.Event{Kind: api.DoInject, Data: []byte{}})
	a, _ := world.Run(usual().c, usual().room, []api.Event{})
	b, _ := world.Run(usual().c, usual().room, nil)
	fatalIf(t, len(a)+len(b) != 0, "%v %v", a, b)
}

func TestP151AllTicks(t *testing.T) {
	t.Parallel()
	s := usual()
	all := slices.Repeat([]api.Event{ticks(1000)}, 20)
	s.takes(t, all...)
	s.refuses(t, 150, append(slices.Clone(all), ticks(1))...)
	s.refuses(t, 150, append([]api.Event{ticks(1)}, all...)...)
	s.refuses(t, 150, slices.Repeat([]api.Event{ticks(1000)}, 21)...)
	s.refuses(t, 150, slices.Repeat([]api.Event{ticks(1000)}, 2000)...)
	mixed := append(all[:19:19], says(0, "x"), ticks(999), lose(), boots(1), ticks(1))
	s.takes(t, mixed...)
	s.refuses(t, 150, append(mixed, ticks(1))...)
	s.takes(t, append(mixed, submits(0, top, top, nil), crash(1, top, top, 1), copies(1000, 3))...) // the As of others don't count
	s.takes(t, slices.Repeat([]api.Event{ticks(10)}, 2000)...)
	s.refuses(t, 150, append(slices.Repeat([]api.Event{ticks(10)}, 1999), ticks(11))...)
}

// An event that may not be is found wherever it stands, and then nothing is played.
func TestP151AnyPlace(t *testing.T) {
	calm := []api.Event{says(0, "x"), ticks(3), boots(1), lose(), ticks(2)}
	for at := range len(calm) + 1 {
		usual().refuses(t, 150, slices.Insert(slices.Clone(calm), at, api.Event{Kind: api.DoBoot, Who: 2})...)
	}
}

// The first error of several.
func TestP151FirstError(t *testing.T) {
	for n := range 32 {
		bit := func(i int) bool { return n>>i&1 == 1 }
		s, script, want := usual(), many(3), ok
		if bit(4) {
			script, want = slices.Repeat([]api.Event{ticks(1000)}, 21), 150
		}
		if bit(3) {
			script[1], want = api.Event{Kind: api.DoInject, Data: make([]byte, 65537)}, 150
		}
		if bit(2) {
			s, want = s.at(n%2, func(c *api.Config) { c.Queue = 0 }), 140
		}
		if bit(1) {
			s.room[n/8%2], want = -1, 1
		}
		if bit(0) {
			script, want = append(script, many(2000)...), 2
		}
		_, no := world.Run(s.c, s.room, script)
		fatalIf(t, no != want, "%05b: error %d, not %d", n, no, want)
	}
	usual().rooms(top+1, 0).at(0, func(c *api.Config) { c.Id = 2 }).refuses(t, 1, ticks(0))
}
