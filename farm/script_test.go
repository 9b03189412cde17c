package farm_test

import (
	"bytes"
	"fmt"
	"math"
	"math/rand/v2"
	"slices"
	"testing"

	"lantern/api"
	"lantern/farm"
	"lantern/world"
)

const (
	ok     = api.OK
	top    = 1<<62 - 1 // MaxNum
	wide   = 1 << 22   // room enough
	maxInt = math.MaxInt
	minInt = math.MinInt
)

// fatalIf marks itself as a helper in need alone: that takes time, and it is called often.
func fatalIf(t *testing.T, wrong bool, words string, what ...any) {
	if wrong {
		t.Helper()
		t.Fatalf(words, what...)
	}
}

// The events that scripts are made of.
func submits(who, red int, text string) api.Event {
	return api.Event{Kind: api.DoSubmit, Who: who, A: 5, B: red, Data: []byte(text)}
}

func ticks(n int) api.Event { return api.Event{Kind: api.DoTick, A: n} }

func crash(who, acts, keep, done int) api.Event {
	return api.Event{Kind: api.DoCrash, Who: who, A: acts, B: keep, C: done}
}

func boots(who int) api.Event { return api.Event{Kind: api.DoBoot, Who: who} }

func lose() api.Event { return api.Event{Kind: api.DoFate, A: 1} }

func copies(late, n int) api.Event { return api.Event{Kind: api.DoFate, B: late, C: n} }

// config is one of an engine that knows the other one.
func config(id, other int) api.Config {
	return api.Config{
		Id:       id,
		Peers:    []api.Peer{{Id: other, Mtu: 120, Timeout: 6}},
		Services: []int{5, 6},
		Contacts: []api.Contact{{Peer: other, To: api.MaxTick, Rate: 4}},
		Rules:    api.Rules{Retry: 3, Cycles: 5},
		Sessions: 6, Hold: 3000, Idle: 50, Queue: 100, Compact: 5000,
	}
}

// script is one for the engines 3 and 4, with room enough.
func script(events ...api.Event) api.Script {
	return api.Script{Configs: [2]api.Config{config(3, 4), config(4, 3)}, Room: [2]int{wide, wide}, Events: events}
}

// with is a script of which something is otherwise.
func with(s api.Script, change func(*api.Script)) api.Script {
	for who := range s.Configs {
		c := &s.Configs[who]
		c.Peers, c.Services, c.Contacts = slices.Clone(c.Peers), slices.Clone(c.Services), slices.Clone(c.Contacts)
	}
	s.Events = slices.Clone(s.Events)
	change(&s)
	return s
}

// Scripts that are played.
func calm() api.Script { return script() }

func step() api.Script { return script(ticks(1)) }

func talk() api.Script { return script(submits(0, 11, "hello there"), ticks(4)) }

// played are scripts that tell, each in its own way, much or little.
func played() []api.Script {
	return []api.Script{
		calm(),
		step(),
		talk(),
		script(submits(0, 3, "red and green"), submits(1, 0, "green alone"), copies(1, 3), ticks(5)),
		script(submits(1, 20, "a block of twenty by"), lose(), ticks(9), crash(0, 0, 9, 1), boots(0), ticks(20)),
		script(crash(1, 1, 0, 1), submits(0, 5, "again"), ticks(3), boots(1), boots(1), ticks(9)),
		script(api.Event{Kind: api.DoInject, Who: 1, Data: []byte{1, 2, 3}}, api.Event{Kind: api.DoCancel, B: 1}),
		with(talk(), func(s *api.Script) { s.Room = [2]int{0, 40} }),
		with(talk(), func(s *api.Script) { s.Configs[0].Id, s.Configs[1].Id = 80, 70 }),
	}
}

// refusal is a script that is not played, and why.
type refusal struct {
	script api.Script
	no     api.Errno
}

// refusals are those of each error of world.Run, by each of its causes.
func refusals() []refusal {
	change := func(no api.Errno, f func(*api.Script)) refusal { return refusal{with(talk(), f), no} }
	return []refusal{
		change(1, func(s *api.Script) { s.Room[0] = -1 }),
		change(2, func(s *api.Script) { s.Events = slices.Repeat([]api.Event{lose()}, 2001) }),
		change(140, func(s *api.Script) { s.Configs[1].Queue = 0 }),
		change(150, func(s *api.Script) { s.Events[1].Kind = 99 }),
		change(1, func(s *api.Script) { s.Room[1] = top + 1 }),
		change(140, func(s *api.Script) { s.Configs[0] = api.Config{} }),
		change(140, func(s *api.Script) { s.Configs[0] = s.Configs[1] }),
		change(150, func(s *api.Script) { s.Events = slices.Repeat([]api.Event{ticks(1000)}, 21) }),
		{api.Script{}, 140},
	}
}

// long is a script that takes its time: there is always something under way, and the journal is written anew again and again.
func long() api.Script {
	var l []api.Event
	text := string(bytes.Repeat([]byte("long "), 150))
	for i := range 250 {
		l = append(l, submits(i%2, 600, text), ticks(30))
	}
	return with(script(l...), func(s *api.Script) { s.Configs[0].Compact = 100 })
}

// oneByOne is what Run has to answer: the chapter's words, without any worker.
func oneByOne(l []api.Script, workers int) ([][]api.Line, api.Errno) {
	if len(l) > 64 {
		return nil, 2
	}
	if workers < 1 || workers > 16 {
		return nil, 160
	}
	told := [][]api.Line{}
	for _, s := range l {
		lines, no := world.Run(s.Configs, s.Room, s.Events)
		if no != ok {
			return nil, no
		}
		told = append(told, lines)
	}
	return told, ok
}

func sameLine(a, b api.Line) bool {
	same := bytes.Equal(a.Notice.Data, b.Notice.Data)
	x, y := a.Notice, b.Notice
	same = same && x.Kind == y.Kind && x.Session == y.Session && x.Service == y.Service && x.Offset == y.Offset && x.Last == y.Last && x.How == y.How && x.Replayed == y.Replayed
	return same && a.Tick == b.Tick && a.Who == b.Who && a.Kind == b.Kind && a.Number == b.Number && a.Err == b.Err
}

func sameLines(a, b []api.Line) bool { return slices.EqualFunc(a, b, sameLine) }

func sameRow(a, b [][]api.Line) bool { return slices.EqualFunc(a, b, sameLines) }

// wants wants of Run that it answers just this.
func wants(t *testing.T, l []api.Script, workers int, told [][]api.Line, want api.Errno) {
	got, no := farm.Run(l, workers)
	if no != want || !sameRow(got, told) {
		t.Helper()
		t.Fatalf("%d scripts, %d workers: error %d, %s\nnot error %d, %s", len(l), workers, no, show(got), want, show(told))
	}
}

// refuses wants of Run that it answers this error, and nothing else.
func refuses(t *testing.T, want api.Errno, workers int, l ...api.Script) {
	t.Helper()
	wants(t, l, workers, nil, want)
}

// plays wants of Run that it answers what is told one by one.
func plays(t *testing.T, workers int, l ...api.Script) {
	t.Helper()
	told, no := oneByOne(l, workers)
	fatalIf(t, no != ok, "error %d", no)
	wants(t, l, workers, told, ok)
}

// show is what is told, as far as one can read it.
func show(told [][]api.Line) string {
	out := fmt.Sprintf("%d lists:", len(told))
	for i, l := range told[:min(len(told), 5)] {
		out += fmt.Sprintf("\n%d: %d lines, %+v", i, len(l), l[:min(len(l), 8)])
	}
	return out
}

// lot draws scripts.
type lot struct{ *rand.Rand }

func chance(seed, row uint64) lot { return lot{rand.New(rand.NewPCG(seed, row))} }

func (r lot) among(l ...int) int { return l[r.IntN(len(l))] }

func (r lot) event() api.Event {
	who := r.IntN(2)
	switch r.IntN(12) {
	case 0, 1, 2:
		n := 1 + r.IntN(300)
		return submits(who, r.among(0, n, n, r.IntN(n)), string(bytes.Repeat([]byte{byte('a' + r.IntN(26))}, n)))
	case 3:
		return lose()
	case 4:
		return copies(1+r.IntN(5), 1+r.IntN(3))
	case 5:
		return crash(who, r.IntN(6), r.among(0, r.IntN(50), top), r.IntN(2))
	case 6:
		return boots(who)
	case 7:
		return api.Event{Kind: api.DoCancel, Who: who, A: r.IntN(2), B: r.IntN(4)}
	}
	return ticks(1 + r.IntN(r.among(3, 20)))
}

// script is one that is played.
func (r lot) script() api.Script {
	s := script()
	for range r.among(0, 5, 30) {
		s.Events = append(s.Events, r.event())
	}
	for who := range s.Configs {
		c := &s.Configs[who]
		s.Room[who] = r.among(wide, wide, wide, 900, r.IntN(200))
		c.Rules.Retry, c.Hold, c.Idle, c.Every, c.Compact = 1+r.IntN(4), r.among(100, 3000), r.among(5, 50), r.IntN(3), r.among(50, 500, 5000)
	}
	return s
}

// row is n scripts; one in so many is refused (0: none).
func (r lot) row(n, bad int) []api.Script {
	l := make([]api.Script, n)
	for i := range l {
		l[i] = r.script()
		if bad > 0 && r.IntN(bad) == 0 {
			all := refusals()
			l[i] = all[r.IntN(len(all))].script
		}
	}
	return l
}
