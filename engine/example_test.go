package engine_test

import (
	"fmt"
	"strconv"
	"strings"
	"testing"

	"lantern/api"
	"lantern/disk"
	"lantern/record"
)

// The chapter's table of examples, row by row.
func TestExamples(t *testing.T) {
	b := begin(t, usual())
	frames, _ := record.Frame([]api.Record{recBoot(1, 1)})
	fatalIf(t, !sameState(b.e.State(), api.State{Id: 1, Boots: 1, Next: 1}) || b.e.Sight().Journal != len(frames), "%+v", b.e.State())
	submitted(t, b, 2, 7, []byte{1, 2, 3}, 3, 1)
	refused(t, b, 3, 7, []byte{1}, 1, 142)
	refused(t, b, 2, 7, nil, 0, 143)
	s := session(1, 1)
	first := api.Segment{Type: api.RedLast, Session: s, Service: 7, Data: []byte{1, 2, 3}, Check: 16777217}
	notes, l := b.tick(t)
	told(t, notes, note(api.NoteSent, s, 0))
	sent(t, l, first)
	_, l = b.ticks(t, 9)
	sent(t, l)
	_, l = b.tick(t)
	sent(t, l, first)
	report := tells(s, 9, 16777217, 0, 3, 0, 3)
	told(t, b.gets(t, 2, report), note(api.NoteDone, s, 0))
	before := len(b.records())
	_, l = b.tick(t)
	sent(t, l, acks(s, 9))
	b.adds(t, before, recTold(1))
	told(t, b.gets(t, 2, report))
	_, l = b.tick(t)
	sent(t, l, acks(s, 9))
	other := session(2, 1)
	x := api.Segment{Type: api.RedLast, Session: other, Service: 7, Data: []byte{9}, Check: 1}
	told(t, b.gets(t, 2, x), noteIn(api.NoteStart, other, 7, nil), noteIn(api.NoteRed, other, 7, []byte{9}))
	_, l = b.tick(t)
	sent(t, l, tells(other, 16777217, 1, 0, 1, 0, 1))
	told(t, b.again(t, wide, 20).Notices)
	state := b.e.State()
	fatalIf(t, state.Boots != 2 || state.Next != 2 || len(state.Incoming) != 1 || !state.Incoming[0].Delivered || b.e.Sight().Imports != 1, "%+v", state)
	x.Session = session(3, 1)
	strays(t, b, 2, x)
	_, no := b.receive(t, 2, []byte{255})
	fatalIf(t, no != 21, "%v", no)
	_, no = b.comes(t, 5, x)
	fatalIf(t, no != 142, "%v", no)
}

// play plays a text of DOC.md's examples with two engines, line by line, as far as these need it.
type play struct {
	t      *testing.T
	c      [2]api.Config
	room   [2]int
	ends   [2]*both
	keep   [2]int
	now    int
	lost   int // of what is sent from here on
	flying []flight
	tells  []string
}

func newPlay(t *testing.T) *play {
	p := &play{t: t, room: [2]int{1000000, 1000000}}
	for i := range p.c {
		p.c[i] = with(usual(), func(c *api.Config) {
			c.Id, c.Services, c.Rules = 1+i, []int{1}, api.Rules{Retry: 5, Cycles: 10}
			c.Peers = []api.Peer{{Id: 2 - i, Mtu: 1000, Timeout: 20}}
			c.Contacts = []api.Contact{{Peer: 2 - i, To: api.MaxTick, Rate: 10}}
			c.Sessions, c.Hold, c.Idle, c.Queue, c.Compact = 10, 100000, 500, 500, 10000
		})
	}
	return p
}

// up lets both run, as soon as something happens.
func (p *play) up() {
	for i := range p.ends {
		if p.ends[i] == nil {
			p.ends[i] = on(p.room[i], p.c[i])
			p.notes(i, p.ends[i].boot(p.t, 0).Notices)
		}
	}
}

func (p *play) say(who int, text string) {
	p.tells = append(p.tells, fmt.Sprintf("%d %c %s", p.now, 'a'+who, text))
}

func (p *play) notes(who int, l []api.Notice) {
	for _, n := range l {
		s := fmt.Sprintf("%d:%d", n.Session.Origin, n.Session.Number)
		var text string
		switch n.Kind {
		case api.NoteStart:
			text = fmt.Sprintf("start %s service %d", s, n.Service)
		case api.NoteGreen:
			text = fmt.Sprintf("green %s service %d at %d %q", s, n.Service, n.Offset, n.Data)
			if n.Last {
				text += " last"
			}
		case api.NoteRed:
			text = fmt.Sprintf("red %s service %d %q", s, n.Service, n.Data)
		case api.NoteSent:
			text = "sent " + s
		case api.NoteDone:
			text = "done " + s
		case api.NoteOff:
			text = fmt.Sprintf("off %s why %d", s, n.How)
		}
		if n.Replayed {
			text += " replayed"
		}
		p.say(who, text)
	}
}

// answers tells how a call ended, if it was asked for, and whether the power went on it.
func (p *play) answers(who int, no api.Errno, text string) {
	if text != "" && no != ok {
		text = fmt.Sprintf("error %d", no)
	}
	if text != "" {
		p.say(who, text)
	}
	if no == 6 {
		p.say(who, "down")
	}
}

func (p *play) runs(who int) bool { return !p.ends[who].m.dead }

func (p *play) tick() {
	p.now++
	due := p.flying
	p.flying = nil
	for _, f := range due {
		if p.runs(f.to) {
			notes, no := p.ends[f.to].receive(p.t, 2-f.to, f.raw)
			p.notes(f.to, notes)
			p.answers(f.to, no, "")
		}
	}
	for who := range p.ends {
		if !p.runs(who) {
			continue
		}
		out, no := p.ends[who].tryTick(p.t)
		p.notes(who, out.Notices)
		if len(out.Sends) > 0 {
			p.say(who, fmt.Sprintf("sends %d", len(out.Sends)))
		}
		p.answers(who, no, "")
		for _, s := range out.Sends {
			if p.lost > 0 {
				p.lost--
				continue
			}
			p.flying = append(p.flying, flight{1 - who, p.now + 1, s.Bytes})
		}
	}
}

func (p *play) line(text string) {
	w := strings.SplitN(text, " ", 5)
	number := func(i int) int { n, _ := strconv.Atoi(w[i]); return n }
	who := 0
	if len(w) > 1 && w[1] == "b" {
		who = 1
	}
	switch w[0] {
	case "set":
		p.room[who] = number(3)
		return
	case "open":
		p.c[who].Contacts = []api.Contact{{Peer: 2 - who, From: number(2), To: number(3), Rate: number(4)}}
		return
	}
	p.up()
	switch w[0] {
	case "lose":
		p.lost++
	case "tick":
		for range number(1) {
			p.tick()
		}
	case "send":
		red := len(w[4])
		if w[3] != "all" {
			red = number(3)
		}
		n, no := p.ends[who].submit(p.t, 2-who, number(2), []byte(w[4]), red)
		p.answers(who, no, fmt.Sprintf("ok %d", n))
	case "cancel":
		notes, no := p.ends[who].cancel(p.t, session(1+int(w[2][0]-'a'), number(3)))
		p.notes(who, notes)
		p.answers(who, no, "ok")
	case "crash":
		p.keep[who] = number(3)
		p.ends[who].hands(func(h *disk.Hand) { h.Arm(number(2), len(w) == 5) })
	case "boot":
		p.notes(who, p.ends[who].again(p.t, p.keep[who], p.now).Notices)
	}
}

// The ten examples of the whole.
func TestExamplesOfTheWhole(t *testing.T) {
	for i, c := range [][2]string{
		{`send a 1 all hello/tick 3`, `0 a ok 1/1 a sent 1:1/1 a sends 1/2 b start 1:1 service 1/2 b red 1:1 service 1 "hello"/2 b sends 1/3 a done 1:1/3 a sends 1/`},
		{`lose/send a 1 all x/tick 23`, `0 a ok 1/1 a sent 1:1/1 a sends 1/21 a sends 1/22 b start 1:1 service 1/22 b red 1:1 service 1 "x"/22 b sends 1/23 a done 1:1/23 a sends 1/`},
		{`send a 1 2 abcd/tick 2`, `0 a ok 1/1 a sent 1:1/1 a sends 2/2 b start 1:1 service 1/2 b red 1:1 service 1 "ab"/2 b green 1:1 service 1 at 2 "cd" last/2 b sends 1/`},
		{`send a 1 0 abc/tick 2`, `0 a ok 1/1 a sent 1:1/1 a sends 1/2 b green 1:1 service 1 at 0 "abc" last/`},
		{`send a 9 all x/tick 3`, `0 a ok 1/1 a sent 1:1/1 a sends 1/2 b sends 1/3 a off 1:1 why 1/3 a sends 1/`},
		{`send a 1 all x/cancel a a 1/tick 2`, `0 a ok 1/0 a off 1:1 why 0/0 a ok/1 a sends 1/2 b sends 1/`},
		{`crash b 0 0/send a 1 all x/tick 2/boot b/tick 20`, `0 a ok 1/1 a sent 1:1/1 a sends 1/2 b down/21 a sends 1/22 b start 1:1 service 1/22 b red 1:1 service 1 "x"/22 b sends 1/`},
		{`crash b 1 0 done/send a 1 all x/tick 2/boot b/tick 1`, `0 a ok 1/1 a sent 1:1/1 a sends 1/2 b down/2 b red 1:1 service 1 "x" replayed/3 b sends 1/`},
		{`open a 10 20 1/send a 1 all x/tick 12`, `0 a ok 1/10 a sent 1:1/10 a sends 1/11 b start 1:1 service 1/11 b red 1:1 service 1 "x"/11 b sends 1/12 a done 1:1/12 a sends 1/`},
		{`set a room 30/send a 1 all abcdefghijklmnopqrstuvwxyz`, `0 a error 5/`},
	} {
		p := newPlay(t)
		for _, text := range strings.Split(c[0], "/") {
			p.line(text)
		}
		got := strings.Join(p.tells, "/") + "/"
		fatalIf(t, got != c[1], "example %d: %s, not %s", 1+i, got, c[1])
	}
}
