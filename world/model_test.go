package world_test

import (
	"bytes"
	"testing"

	"lantern/api"
	"lantern/disk"
	"lantern/engine"
)

// sending is a Send that is for the other engine.
type sending struct {
	from, at int
	raw      []byte
	lost     bool
	late     int
	copies   int
}

// model plays a script by the chapter's words, one by one, without a thought of time and room.
type model struct {
	setup
	script   []api.Event // all of it
	come     []api.Event // those to which the play has come
	tick     int
	hands    [2]*disk.Hand
	engines  [2]*engine.Engine
	up       [2]bool
	sent     []sending
	told     []api.Line
	answered map[api.Session]api.Event // the submits that gave a number
	unsure   [2][]api.Event            // those on which the power went
	twice    bool                      // a number was given to two of them
}

func played(s setup, script []api.Event) *model {
	m := &model{setup: s, script: script, answered: map[api.Session]api.Event{}}
	for who := range 2 {
		m.hands[who] = disk.New(s.room[who])
		m.boots(who)
	}
	for _, x := range script {
		m.come = append(m.come, x)
		m.plays(x)
	}
	return m
}

func (m *model) plays(x api.Event) {
	other := m.c[1-x.Who].Id
	switch x.Kind {
	case api.DoSubmit:
		m.asks(x, func(e *engine.Engine) (int, api.Out, error) { return e.Submit(other, x.A, x.Data, x.B) })
	case api.DoCancel:
		m.asks(x, func(e *engine.Engine) (int, api.Out, error) {
			out, err := e.Cancel(session(m.c[x.A].Id, x.B))
			return 0, out, err
		})
	case api.DoInject:
		m.asks(x, func(e *engine.Engine) (int, api.Out, error) {
			out, err := e.Receive(other, x.Data)
			return 0, out, err
		})
	case api.DoTick:
		for range x.A {
			m.goesOn()
		}
	case api.DoCrash:
		m.hands[x.Who].Arm(x.A, x.C == 1)
	case api.DoBoot:
		m.up[x.Who] = false
		m.hands[x.Who].Crash(m.keep(x.Who))
		m.boots(x.Who)
	}
}

// keep is what the chapter calls Keep, as the last event begins.
func (m *model) keep(who int) int {
	for i := len(m.come) - 2; i >= 0; i-- {
		switch x := m.come[i]; {
		case x.Who == who && x.Kind == api.DoCrash:
			return x.B
		case x.Who == who && x.Kind == api.DoBoot:
			return 0
		}
	}
	return 0
}

func (m *model) says(who int, l api.Line) {
	l.Tick, l.Who = m.tick, who
	m.told = append(m.told, l)
}

func (m *model) notices(who int, out api.Out) {
	for _, n := range out.Notices {
		m.says(who, api.Line{Kind: api.LineNotice, Notice: n})
	}
}

func (m *model) boots(who int) {
	e, out, err := engine.Boot(m.hands[who].Disk(), m.c[who], m.tick)
	m.notices(who, out)
	m.engines[who], m.up[who] = e, err == nil
	if err != nil {
		m.says(who, api.Line{Kind: api.LineAnswer, Err: disk.Number(err)})
	}
}

// ends tells what a call's error comes to, behind all that was told of it.
func (m *model) ends(who int, err error) {
	if disk.Number(err) == 6 {
		m.up[who] = false
		m.says(who, api.Line{Kind: api.LineDown})
	}
}

func (m *model) asks(x api.Event, call func(*engine.Engine) (int, api.Out, error)) {
	if !m.up[x.Who] {
		m.says(x.Who, api.Line{Kind: api.LineAnswer, Err: 141})
		return
	}
	n, out, err := call(m.engines[x.Who])
	m.notices(x.Who, out)
	m.says(x.Who, api.Line{Kind: api.LineAnswer, Err: disk.Number(err), Number: n})
	if s := session(m.c[x.Who].Id, n); x.Kind == api.DoSubmit && err == nil {
		_, twice := m.answered[s]
		m.twice = m.twice || twice
		m.answered[s] = x
	}
	if x.Kind == api.DoSubmit && disk.Number(err) == 6 {
		m.unsure[x.Who] = append(m.unsure[x.Who], x)
	}
	m.ends(x.Who, err)
}

// goesOn is one tick.
func (m *model) goesOn() {
	m.tick++
	for _, s := range m.sent {
		for i := 1; i <= s.copies; i++ {
			if s.at+i*s.late == m.tick && !s.lost {
				m.comes(1-s.from, s.raw)
			}
		}
	}
	for who := range 2 {
		if !m.up[who] {
			continue
		}
		out, err := m.engines[who].Tick()
		m.notices(who, out)
		if len(out.Sends) > 0 {
			m.says(who, api.Line{Kind: api.LineSent, Number: len(out.Sends)})
		}
		m.ends(who, err)
		for _, s := range out.Sends {
			if s.Peer == m.c[1-who].Id {
				m.sends(who, s.Bytes)
			}
		}
	}
}

func (m *model) comes(who int, raw []byte) {
	if !m.up[who] {
		return
	}
	out, err := m.engines[who].Receive(m.c[1-who].Id, raw)
	m.notices(who, out)
	m.ends(who, err)
}

// sends gives a Send its fate: as many DoFates were taken as Sends there were ahead of it, those alone that had come by then.
func (m *model) sends(who int, raw []byte) {
	s := sending{from: who, at: m.tick, raw: raw, late: 1, copies: 1}
	if f, is := m.nextFate(); is {
		s.lost, s.late, s.copies = f.A == 1, f.B, f.C
	}
	m.sent = append(m.sent, s)
}

// nextFate is the first one that was not taken; it is marked as taken where it stands.
func (m *model) nextFate() (api.Event, bool) {
	for i, x := range m.come {
		if x.Kind == api.DoFate {
			m.come[i] = api.Event{}
			return x, true
		}
	}
	return api.Event{}, false
}

// of is which engine has a number; -1: none.
func (m *model) of(id int) int {
	for who, c := range m.c {
		if c.Id == id {
			return who
		}
	}
	return -1
}

// submitted tells whether such a block was submitted for a session.
func (m *model) submitted(s api.Session, is func(api.Event) bool) bool {
	if x, sure := m.answered[s]; sure {
		return is(x)
	}
	for _, x := range m.unsure[m.of(s.Origin)] {
		if is(x) {
			return true
		}
	}
	return false
}

// holds wants what P15.7 says, with T1 and T2, of a script without DoInject; and of all scripts that at most one NoteRed of a session is told that is not Replayed.
func (m *model) holds(t *testing.T) {
	injected := false
	for _, x := range m.script {
		injected = injected || x.Kind == api.DoInject
	}
	fatalIf(t, m.twice, "a number is given twice: %s", text(m.told))
	reds := map[api.Session]int{}
	had := map[api.Session][8]bool{}
	for _, l := range m.told {
		n := l.Notice
		if l.Kind != api.LineNotice {
			continue
		}
		if n.Kind == api.NoteRed && !n.Replayed {
			reds[n.Session]++
			fatalIf(t, reds[n.Session] > 1, "delivered twice: %v in %s", n.Session, text(m.told))
		}
		if injected {
			continue
		}
		if n.Kind == api.NoteDone {
			fatalIf(t, !had[n.Session][api.NoteRed], "done, and not delivered: %v in %s", n.Session, text(m.told))
		}
		m.right(t, l)
		k := had[n.Session]
		k[n.Kind] = true
		had[n.Session] = k
		fatalIf(t, k[api.NoteDone] && k[api.NoteOff] || k[api.NoteRed] && k[api.NoteGone], "%v ended in two ways: %s", n.Session, text(m.told))
	}
}

// right wants that a notice is told where it ought to be, of a block that was submitted so.
func (m *model) right(t *testing.T, l api.Line) {
	n := l.Notice
	from := m.of(n.Session.Origin)
	at := map[int]bool{api.NoteSent: true, api.NoteDone: true, api.NoteOff: true}[n.Kind]
	fatalIf(t, from < 0 || (from == l.Who) != at, "told at the wrong end: %+v", l)
	switch end := n.Offset + len(n.Data); n.Kind {
	case api.NoteRed:
		fatalIf(t, !m.submitted(n.Session, func(x api.Event) bool {
			return x.A == n.Service && x.B <= len(x.Data) && bytes.Equal(x.Data[:x.B], n.Data)
		}), "delivered, and never submitted so: %+v", n)
	case api.NoteGreen:
		fatalIf(t, !m.submitted(n.Session, func(x api.Event) bool {
			return x.A == n.Service && n.Offset >= x.B && end <= len(x.Data) && bytes.Equal(x.Data[n.Offset:end], n.Data) && n.Last == (end == len(x.Data))
		}), "green, and never submitted so: %+v", n)
	}
}
