package world

import (
	"lantern/api"
	"lantern/disk"
	"lantern/engine"
)

// end is one of the link's two: an engine, up or down, and the hand on its disk.
type end struct {
	config api.Config
	hand   *disk.Hand
	engine *engine.Engine // nil: it is down
	keep   int            // how many bytes that are not safe the next loss of power leaves
}

// play is a script that is being played.
type play struct {
	tick int
	ends [2]end
	link link
	told []api.Line
}

// begin lets both engines run.
func begin(c [2]api.Config, room [2]int) *play {
	p := &play{link: link{underWay: map[int][]flight{}}}
	for who := range p.ends {
		p.ends[who] = end{config: c[who], hand: disk.New(room[who])}
		p.boot(who)
	}
	return p
}

// does is what an event of a kind that there is does.
func (p *play) does(kind int) func(api.Event) {
	switch kind {
	case api.DoSubmit:
		return p.submit
	case api.DoCancel:
		return p.cancel
	case api.DoTick:
		return p.ticks
	case api.DoCrash:
		return p.arm
	case api.DoBoot:
		return p.restart
	case api.DoInject:
		return p.inject
	}
	return p.foretell
}

// id is the number of an engine.
func (p *play) id(who int) int { return p.ends[who].config.Id }

// other is the number of the other one.
func (p *play) other(who int) int { return p.id(1 - who) }

func (p *play) submit(x api.Event) {
	p.ask(x.Who, func(e *engine.Engine) (int, api.Out, error) {
		return e.Submit(p.other(x.Who), x.A, x.Data, x.B)
	})
}

func (p *play) cancel(x api.Event) {
	p.ask(x.Who, func(e *engine.Engine) (int, api.Out, error) {
		out, err := e.Cancel(api.Session{Origin: p.id(x.A), Number: x.B})
		return 0, out, err
	})
}

func (p *play) inject(x api.Event) {
	p.ask(x.Who, func(e *engine.Engine) (int, api.Out, error) {
		out, err := e.Receive(p.other(x.Who), x.Data)
		return 0, out, err
	})
}

// arm lets the power go, so many acts from here on. If it has gone already, what stays is said anew all the same.
func (p *play) arm(x api.Event) {
	w := &p.ends[x.Who]
	w.hand.Arm(x.A, x.C == 1)
	w.keep = x.B
}

// restart takes an engine's power, and gives it back.
func (p *play) restart(x api.Event) {
	w := &p.ends[x.Who]
	w.hand.Crash(w.keep)
	w.keep = 0
	p.boot(x.Who)
}

// foretell says what becomes of a segment that is sent from here on.
func (p *play) foretell(x api.Event) { p.link.fates = append(p.link.fates, x) }

// ticks lets time go on.
func (p *play) ticks(x api.Event) {
	for range x.A {
		p.tick++
		for _, f := range p.link.arrive(p.tick) {
			p.receive(f)
		}
		for who := range p.ends {
			p.step(who)
		}
	}
}

// receive lets a segment come to an engine; it is gone, if nobody is there. What the engine answers to it, nobody has asked for.
func (p *play) receive(f flight) {
	e := p.ends[f.to].engine
	if e == nil {
		return
	}
	out, err := e.Receive(p.other(f.to), f.bytes)
	p.notices(f.to, out)
	p.downIf(f.to, err)
}

// step is a tick of one engine; what it sends to anybody but the other one is gone.
func (p *play) step(who int) {
	e := p.ends[who].engine
	if e == nil {
		return
	}
	out, err := e.Tick()
	p.notices(who, out)
	if len(out.Sends) > 0 {
		p.tell(who, api.Line{Kind: api.LineSent, Number: len(out.Sends)})
	}
	for _, s := range out.Sends {
		if s.Peer == p.other(who) {
			p.link.send(p.tick, 1-who, s.Bytes)
		}
	}
	p.downIf(who, err)
}

// boot boots an engine on its disk.
func (p *play) boot(who int) {
	w := &p.ends[who]
	e, out, err := engine.Boot(w.hand.Disk(), w.config, p.tick)
	w.engine = e // nil, if there is an error
	p.notices(who, out)
	if err != nil {
		p.tell(who, api.Line{Kind: api.LineAnswer, Err: disk.Number(err)})
	}
}

// ask calls an engine for its client, and tells the answer.
func (p *play) ask(who int, call func(*engine.Engine) (int, api.Out, error)) {
	e := p.ends[who].engine
	if e == nil {
		p.tell(who, api.Line{Kind: api.LineAnswer, Err: api.ErrEngineDead})
		return
	}
	number, out, err := call(e)
	p.notices(who, out)
	p.tell(who, api.Line{Kind: api.LineAnswer, Number: number, Err: disk.Number(err)})
	p.downIf(who, err)
}

// downIf lets go of an engine on whose call the power went.
func (p *play) downIf(who int, err error) {
	if disk.Number(err) == api.ErrDown {
		p.ends[who].engine = nil
		p.tell(who, api.Line{Kind: api.LineDown})
	}
}

// notices tells what an engine told its client.
func (p *play) notices(who int, out api.Out) {
	for _, n := range out.Notices {
		p.tell(who, api.Line{Kind: api.LineNotice, Notice: n})
	}
}

// tell tells a line of an engine, behind all that were told.
func (p *play) tell(who int, l api.Line) {
	l.Tick, l.Who = p.tick, who
	p.told = append(p.told, l)
}
