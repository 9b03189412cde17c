package world_test

import (
	"bytes"
	"fmt"
	"math"
	"slices"
	"strings"
	"testing"

	"lantern/api"
	"lantern/world"
)

const (
	top    = 1<<62 - 1 // MaxNum
	most   = 65536     // MaxBlock
	wide   = 1 << 24   // room enough
	maxInt = math.MaxInt
	minInt = math.MinInt
	ok     = api.OK
	epoch  = 1 << 24
)

// fatalIf marks itself as a helper in need alone: that takes time, and it is called often.
func fatalIf(t *testing.T, wrong bool, words string, what ...any) {
	if wrong {
		t.Helper()
		t.Fatalf(words, what...)
	}
}

func session(origin, number int) api.Session { return api.Session{Origin: origin, Number: number} }

// row is n bytes, of which none is like its neighbours.
func row(n int) []byte {
	b := make([]byte, n)
	for i := range b {
		b[i] = byte(i*7 + i/256 + 1)
	}
	return b
}

var wholeRow = row(most)

// The events that scripts are made of.
func submits(who, service, red int, data []byte) api.Event {
	return api.Event{Kind: api.DoSubmit, Who: who, A: service, B: red, Data: data}
}

// says submits a text, all of it red.
func says(who int, text string) api.Event { return submits(who, 7, len(text), []byte(text)) }

// hints submits a text, none of it red: each copy of it that comes is told.
func hints(who int, text string) api.Event { return submits(who, 7, 0, []byte(text)) }

func cancels(who, whose, number int) api.Event {
	return api.Event{Kind: api.DoCancel, Who: who, A: whose, B: number}
}

func ticks(n int) api.Event { return api.Event{Kind: api.DoTick, A: n} }

func crash(who, acts, keep, done int) api.Event {
	return api.Event{Kind: api.DoCrash, Who: who, A: acts, B: keep, C: done}
}

func boots(who int) api.Event { return api.Event{Kind: api.DoBoot, Who: who} }

func injects(who int, b ...byte) api.Event {
	return api.Event{Kind: api.DoInject, Who: who, Data: b}
}

func lose() api.Event { return api.Event{Kind: api.DoFate, A: 1} }

func copies(late, n int) api.Event { return api.Event{Kind: api.DoFate, B: late, C: n} }

func late(n int) api.Event { return copies(n, 1) }

// setup is where scripts are played.
type setup struct {
	c    [2]api.Config
	room [2]int
}

// usual is that of the chapter's examples.
func usual() setup {
	s := setup{room: [2]int{100000, 100000}}
	for i := range s.c {
		s.c[i] = api.Config{
			Id:       1 + i,
			Peers:    []api.Peer{{Id: 2 - i, Mtu: 1000, Timeout: 9}},
			Services: []int{7},
			Contacts: []api.Contact{{Peer: 2 - i, To: api.MaxTick, Rate: 9}},
			Rules:    api.Rules{Retry: 3, Cycles: 9},
			Sessions: 4,
			Hold:     100000,
			Idle:     1000,
			Queue:    100,
			Compact:  100000,
		}
	}
	return s
}

// with is a setup of which something is otherwise at both ends.
func (s setup) with(change func(*api.Config)) setup {
	for who := range s.c {
		s = s.at(who, change)
	}
	return s
}

// at is a setup of which something is otherwise at one end.
func (s setup) at(who int, change func(*api.Config)) setup {
	c := &s.c[who]
	c.Peers, c.Services, c.Contacts = slices.Clone(c.Peers), slices.Clone(c.Services), slices.Clone(c.Contacts)
	change(c)
	return s
}

// rooms is a setup with other rooms.
func (s setup) rooms(a, b int) setup {
	s.room = [2]int{a, b}
	return s
}

// run plays a script that may be, and wants that it tells what the model does, and what holds of all scripts.
func (s setup) run(t *testing.T, script ...api.Event) []api.Line {
	got, no := world.Run(s.c, s.room, script)
	fatalIf(t, no != ok, "error %d of %v", no, show(script))
	m := played(s, script)
	if !slices.EqualFunc(got, m.told, sameLine) {
		t.Helper()
		t.Fatalf("%s\ntells %s\nnot   %s", show(script), text(got), text(m.told))
	}
	m.holds(t)
	return got
}

// tells wants that a script tells just this.
func (s setup) tells(t *testing.T, want string, script ...api.Event) {
	t.Helper()
	if got := text(s.run(t, script...)); got != want {
		t.Fatalf("%s\ntells %s\nnot   %s", show(script), got, want)
	}
}

// refuses wants that a script is not played.
func (s setup) refuses(t *testing.T, want api.Errno, script ...api.Event) {
	t.Helper()
	l, no := world.Run(s.c, s.room, script)
	fatalIf(t, no != want || len(l) != 0, "error %d and %d lines, not error %d", no, len(l), want)
}

// takes wants that a script is played.
func (s setup) takes(t *testing.T, script ...api.Event) {
	t.Helper()
	_, no := world.Run(s.c, s.room, script)
	fatalIf(t, no != ok, "error %d", no)
}

func sameNotice(a, b api.Notice) bool {
	return a.Kind == b.Kind && a.Session == b.Session && a.Service == b.Service && a.Offset == b.Offset && a.Last == b.Last && bytes.Equal(a.Data, b.Data) && a.How == b.How && a.Replayed == b.Replayed
}

func sameLine(a, b api.Line) bool {
	return a.Tick == b.Tick && a.Who == b.Who && a.Kind == b.Kind && a.Number == b.Number && a.Err == b.Err && sameNotice(a.Notice, b.Notice)
}

// text is what lines tell, as DOC.md's examples have it: each with a / behind it.
func text(l []api.Line) string {
	var b strings.Builder
	for _, x := range l {
		fmt.Fprintf(&b, "%d %c %s/", x.Tick, 'a'+x.Who, words(x))
	}
	return b.String()
}

// words is what one line tells; what its kind does not name has to be zero.
func words(x api.Line) string {
	bare := api.Line{Tick: x.Tick, Who: x.Who, Kind: x.Kind}
	var out string
	switch x.Kind {
	case api.LineNotice:
		bare.Notice = x.Notice
		out = noticeWords(x.Notice)
	case api.LineAnswer:
		bare.Number, bare.Err = x.Number, x.Err
		out = "ok"
		if x.Err != ok {
			out = fmt.Sprintf("error %d", x.Err)
		}
		if x.Number != 0 {
			out += fmt.Sprintf(" %d", x.Number)
		}
	case api.LineDown:
		out = "down"
	case api.LineSent:
		bare.Number = x.Number
		out = fmt.Sprintf("sends %d", x.Number)
	default:
		out = fmt.Sprintf("a line of the kind %d", x.Kind)
	}
	if !sameLine(x, bare) {
		out += fmt.Sprintf(" and more: %+v", x)
	}
	return out
}

func noticeWords(n api.Notice) string {
	names := [...]string{"?", "start", "green", "red", "gone", "sent", "done", "off"}
	out := fmt.Sprintf("%s %d:%d", names[n.Kind%len(names)], n.Session.Origin, n.Session.Number)
	switch n.Kind {
	case api.NoteStart:
		out += fmt.Sprintf(" service %d", n.Service)
	case api.NoteGreen:
		out += fmt.Sprintf(" service %d at %d %q", n.Service, n.Offset, n.Data)
		if n.Last {
			out += " last"
		}
	case api.NoteRed:
		out += fmt.Sprintf(" service %d %q", n.Service, n.Data)
	case api.NoteGone, api.NoteOff:
		out += fmt.Sprintf(" why %d", n.How)
	}
	if n.Replayed {
		out += " replayed"
	}
	return out
}

// show is a script as one can read it.
func show(script []api.Event) string {
	names := [...]string{"?", "submit", "cancel", "tick", "crash", "boot", "inject", "fate"}
	var b strings.Builder
	for _, x := range script {
		fmt.Fprintf(&b, "%s %d: %d %d %d, %d bytes; ", names[x.Kind%len(names)], x.Who, x.A, x.B, x.C, len(x.Data))
	}
	return b.String()
}
