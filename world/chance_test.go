package world_test

import (
	"fmt"
	"math/rand/v2"
	"testing"

	"lantern/api"
	"lantern/world"
)

// lot draws setups and scripts.
type lot struct{ *rand.Rand }

func (r lot) among(l ...int) int { return l[r.IntN(len(l))] }

// setup is one in which every limit is met now and then.
func (r lot) setup() setup {
	ids := [][2]int{{1, 2}, {2, 1}, {5, 900}, {top, 3}}[r.IntN(4)]
	var s setup
	for who := range s.c {
		s.room[who] = r.among(wide, wide, wide, wide, 3000, 600, 200, r.IntN(100))
		s.c[who] = r.config(ids[who], ids[1-who])
	}
	return s
}

func (r lot) config(id, other int) api.Config {
	c := api.Config{
		Id:       id,
		Peers:    []api.Peer{{Id: other, Mtu: r.among(80, 100, 300), Timeout: 1 + r.IntN(12)}},
		Services: []int{7, 8},
		Rules:    api.Rules{Retry: 1 + r.IntN(6), Cycles: 1 + r.IntN(10)},
		Sessions: 1 + r.IntN(6),
		Hold:     r.among(40, 400, 5000, 5000),
		Idle:     r.among(3, 20, 60, 200),
		Every:    r.IntN(3),
		Queue:    r.among(3, 20, 200),
		Compact:  r.among(1, 100, 400, 100000),
	}
	switch r.IntN(4) {
	case 0:
		for at := r.IntN(4); at < 400; at += 4 + r.IntN(20) {
			c.Contacts = append(c.Contacts, api.Contact{Peer: other, From: at, To: at + 1 + r.IntN(9), Rate: 1 + r.IntN(4)})
		}
	default:
		c.Contacts = []api.Contact{{Peer: other, To: api.MaxTick, Rate: 1 + r.IntN(9)}}
	}
	if r.IntN(4) == 0 { // somebody else, too
		x := api.Peer{Id: 77, Mtu: 90, Timeout: 3}
		c.Peers = append([]api.Peer{x}, c.Peers...)
		c.Contacts = append(c.Contacts, api.Contact{Peer: 77, To: 99, Rate: 4})
	}
	return c
}

// event is one of which it is not known what it will do.
func (r lot) event() api.Event {
	who := r.IntN(2)
	switch n := r.IntN(100); {
	case n < 18:
		size := 1 + r.IntN(r.among(5, 100, 500))
		from := r.IntN(200)
		return submits(who, r.among(7, 7, 7, 8, 9), r.among(0, size, size, size, r.IntN(size+1), size+1), wholeRow[from:][:size])
	case n < 23:
		return cancels(who, r.IntN(2), r.IntN(5))
	case n < 33:
		return crash(who, r.IntN(8), r.among(0, 0, r.IntN(100), top), r.IntN(2))
	case n < 43:
		return boots(who)
	case n < 53:
		return lose()
	case n < 63:
		return copies(1+r.IntN(6), 1+r.IntN(3))
	}
	return ticks(1 + r.among(0, 1, 2, r.IntN(20), r.IntN(60)))
}

// foreign are bytes that come of no engine: a segment, or less than one.
func (r lot) foreign(s setup) api.Event {
	who := r.IntN(2)
	ours, theirs := session(s.c[who].Id, 1+r.IntN(4)), session(s.c[1-who].Id, 1+r.IntN(4))
	from := r.among(0, 0, r.IntN(9))
	x := api.Segment{Type: r.among(0, 1, 2, 3, 3, 4, 7, 8, 9, 12, 13, 14, 15), Session: theirs}
	switch x.Type {
	case 0, 1, 2, 3, 4, 7:
		x.Service, x.Offset, x.Data = r.among(7, 7, 8, 9), from, wholeRow[from:][:1+r.IntN(9)]
		if x.Type >= 1 && x.Type <= 3 {
			x.Check, x.Report = 1+r.IntN(4), r.among(0, epoch+1)
		}
	case 8:
		x.Session, x.Report, x.Check, x.Upper, x.Claims = ours, 1+r.IntN(5), epoch+1+r.IntN(3), 100, []api.Span{{From: from, To: from + 1 + r.IntN(90)}}
	case 9:
		x.Report = epoch + 1 + r.IntN(5)
	case 12:
		x.Reason = r.IntN(6)
	case 13:
		x.Session = ours
	case 14:
		x.Session, x.Reason = ours, r.IntN(6)
	}
	b := seg(x)
	if r.IntN(6) == 0 {
		b = b[:r.IntN(len(b))]
	}
	return injects(who, b...)
}

func (r lot) script(s setup, n int, foreign bool) (l []api.Event) {
	for range n {
		if foreign && r.IntN(4) == 0 {
			l = append(l, r.foreign(s))
		} else {
			l = append(l, r.event())
		}
	}
	return l
}

// tally counts what is told, so that one sees that all of it is.
type tally map[string]int

func (y tally) add(l []api.Line) {
	for _, x := range l {
		key := fmt.Sprintf("line %d", x.Kind)
		switch x.Kind {
		case api.LineAnswer:
			key = fmt.Sprintf("error %d", x.Err)
		case api.LineNotice:
			key = fmt.Sprintf("notice %d %v", x.Notice.Kind, x.Notice.Replayed)
		}
		y[key]++
	}
}

func (y tally) wants(t *testing.T, keys ...string) {
	t.Helper()
	for _, k := range keys {
		fatalIf(t, y[k] < 20, "%s: %d times; %v", k, y[k], y)
	}
}

var usualTells = []string{"line 3", "line 4", "error 0", "error 5", "error 6", "error 141", "error 143", "error 144", "error 145",
	"notice 1 false", "notice 2 false", "notice 3 false", "notice 3 true", "notice 4 false", "notice 4 true", "notice 5 false", "notice 6 false", "notice 6 true", "notice 7 false", "notice 7 true"}

// P15.7, T1 and T2: long scripts by chance, held against the model, too.
func TestP157LongScripts(t *testing.T) {
	t.Parallel()
	y := tally{}
	for seed := range uint64(600) {
		r := lot{rand.New(rand.NewPCG(seed, 157))}
		s := r.setup()
		y.add(s.run(t, r.script(s, 20+r.IntN(200), false)...))
	}
	y.wants(t, usualTells...)
}

// Scripts with bytes of nobody's: each tells what the model tells, and no block is delivered twice.
func TestP152LongScripts(t *testing.T) {
	t.Parallel()
	y := tally{}
	for seed := range uint64(400) {
		r := lot{rand.New(rand.NewPCG(seed, 152))}
		s := r.setup()
		y.add(s.run(t, r.script(s, 20+r.IntN(150), true)...))
	}
	y.wants(t, append(usualTells, "error 20", "error 146")...)
}

// As many events as may be, and as many ticks.
func TestP157LongestScripts(t *testing.T) {
	t.Parallel()
	for seed := range uint64(6) {
		r := lot{rand.New(rand.NewPCG(seed, 2000))}
		s := r.setup().rooms(wide, wide)
		script := r.script(s, 2000, false)
		left := 20000
		for i, x := range script {
			if x.Kind == api.DoTick {
				script[i].A = max(1, min(x.A, left-2000))
				left -= script[i].A
			}
		}
		s.run(t, script...)
	}
}

// P15.5: a script cut at each of its events tells a beginning of what it tells.
func TestP155Beginnings(t *testing.T) {
	t.Parallel()
	for seed := range uint64(60) {
		r := lot{rand.New(rand.NewPCG(seed, 155))}
		s := r.setup()
		script := r.script(s, 40, seed%2 == 1)
		all, _ := world.Run(s.c, s.room, script)
		had := 0
		for i := range script {
			l, no := world.Run(s.c, s.room, script[:i])
			fatalIf(t, no != ok || len(l) < had || !begins(all, l), "cut at %d, %s\ntells %s\nnot a beginning of %s", i, show(script), text(l), text(all))
			had = len(l)
		}
	}
}

// begins tells whether l stands at the beginning of all.
func begins(all, l []api.Line) bool {
	if len(l) > len(all) {
		return false
	}
	for i := range l {
		if !sameLine(all[i], l[i]) {
			return false
		}
	}
	return true
}

// P15.6: ticks at one time, or one behind the other, tell the same.
func TestP156TicksCut(t *testing.T) {
	t.Parallel()
	for seed := range uint64(120) {
		r := lot{rand.New(rand.NewPCG(seed, 156))}
		s := r.setup()
		script := r.script(s, 50, seed%2 == 1)
		want, _ := world.Run(s.c, s.room, script)
		single, joined := cut(script, func(int) int { return 1 }), join(script)
		for _, l := range [][]api.Event{single, joined, join(single), cut(script, func(n int) int { return 1 + r.IntN(n) }), cut(joined, func(n int) int { return n - n/3 })} {
			got, no := world.Run(s.c, s.room, l)
			fatalIf(t, no != ok || len(got) != len(want) || !begins(want, got), "%s\ntells %s\nnot   %s", show(l), text(got), text(want))
		}
	}
}

// cut cuts each DoTick into several, by how many each of them has, of so many that are left.
func cut(script []api.Event, first func(int) int) (l []api.Event) {
	for _, x := range script {
		for x.Kind == api.DoTick && x.A > 1 {
			n := min(first(x.A), x.A-1)
			l = append(l, ticks(n))
			x.A -= n
		}
		l = append(l, x)
	}
	return l
}

// join makes one DoTick of those that stand one behind the other, as long as that may be.
func join(script []api.Event) (l []api.Event) {
	for _, x := range script {
		if n := len(l); n > 0 && x.Kind == api.DoTick && l[n-1].Kind == api.DoTick && l[n-1].A+x.A <= 1000 {
			l[n-1].A += x.A
			continue
		}
		l = append(l, x)
	}
	return l
}

// A DoFate behind all that is sent changes nothing; nor does a DoCrash behind all acts.
func TestP152WithoutEffect(t *testing.T) {
	t.Parallel()
	for seed := range uint64(60) {
		r := lot{rand.New(rand.NewPCG(seed, 1520))}
		s := r.setup()
		script := r.script(s, 40, false)
		want := s.run(t, script...)
		got := s.run(t, append(script, lose(), copies(3, 2), crash(0, 0, 0, 1), crash(1, 5, 9, 0))...)
		fatalIf(t, len(got) != len(want) || !begins(want, got), "%s\nnot %s", text(got), text(want))
	}
}

// W2: what is told hangs on nothing else: again and again, and at one time.
func TestW2TheSameAgain(t *testing.T) {
	t.Parallel()
	for seed := range uint64(20) {
		r := lot{rand.New(rand.NewPCG(seed, 2))}
		s := r.setup()
		script := r.script(s, 60, true)
		answers := make(chan string)
		for range 4 {
			go func() {
				l, _ := world.Run(s.c, s.room, script)
				answers <- text(l)
			}()
		}
		first := <-answers
		for range 3 {
			fatalIf(t, <-answers != first, "another run, and something else is told")
		}
	}
}
