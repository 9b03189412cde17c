package engine

import (
	"lantern/api"
	"lantern/report"
	"lantern/segment"
)

// row is what is done with segments of a type.
type row struct {
	stray func(*call, api.Peer, api.Segment) bool  // it can't be for this engine, from that peer
	comes func(*call, api.Peer, api.Segment) error // it came from that peer
	goes  func(*call, api.Peer, api.Segment)       // it goes out to that peer
}

// rowOf is the row of a type that there is.
func rowOf(kind int) row {
	red := row{(*call).notTheirs, (*call).redComes, (*call).dataGoes}
	green := row{(*call).notTheirs, (*call).greenComes, (*call).dataGoes}
	rows := [...]row{
		api.RedPlain:    red,
		api.RedCheck:    red,
		api.RedEnd:      red,
		api.RedLast:     red,
		api.GreenPlain:  green,
		api.GreenLast:   green,
		api.ReportType:  {(*call).notOurs, (*call).reportComes, (*call).reportGoes},
		api.AckType:     {(*call).notTheirs, (*call).ackComes, (*call).answerGoes},
		api.CancelOut:   {(*call).notTheirs, (*call).cancelOutComes, (*call).cancelGoes},
		api.CancelOutOk: {(*call).notOurs, (*call).cancelOkComes, (*call).answerGoes},
		api.CancelIn:    {(*call).notOurs, (*call).cancelInComes, (*call).cancelGoes},
		api.CancelInOk:  {(*call).notTheirs, (*call).cancelOkComes, (*call).answerGoes},
	}
	return rows[kind]
}

// receive does what is to be done with bytes.
func (c *call) receive(from int, b []byte) error {
	p, there := c.peer(from)
	if !there {
		return api.ErrEnginePeer
	}
	x, fault := segment.Parse(b)
	if fault != api.OK {
		c.sight.Bad++
		return fault
	}
	r := rowOf(x.Type)
	if r.stray(c, p, x) {
		c.sight.Stray++
		return api.ErrEngineStray
	}
	return r.comes(c, p, x)
}

// notTheirs tells whether a segment that only an origin sends came from another one.
func (c *call) notTheirs(p api.Peer, x api.Segment) bool { return x.Session.Origin != p.Id }

// notOurs tells whether a segment that only a receiver sends is of no session that was sent to it.
func (c *call) notOurs(p api.Peer, x api.Segment) bool {
	if x.Session.Origin != c.config.Id || x.Session.Number >= c.sight.Next {
		return true
	}
	o, there := c.exports[x.Session]
	return there && o.peer.Id != p.Id
}

func (c *call) reportComes(p api.Peer, x api.Segment) error {
	ack := api.Segment{Type: api.AckType, Session: x.Session, Report: x.Report}
	o, there := c.exports[x.Session]
	if !there || !o.canFail() {
		c.answer(p, ack)
		return nil
	}
	r, _ := report.Of(x) // what was parsed as a report is one
	moves := o.Report(r)
	switch {
	case moves.Done:
		return c.through(x.Session, o, ack)
	case moves.Over:
		if err := c.cancelExport(x.Session, o, moves.Why); err != nil {
			return err
		}
		c.answer(p, ack)
		return nil
	}
	c.answer(p, ack)
	c.stops(p, x.Session, api.TimeCheck, moves.Stop)
	c.put(p, moves.Send)
	return nil
}

// through ends an export well: its red part is received whole, as a report says that is acknowledged.
func (c *call) through(s api.Session, o sending, ack api.Segment) error {
	if err := c.write(true, api.Record{Kind: api.RecEnd, Session: s}); err != nil {
		return err
	}
	c.answer(o.peer, ack)
	c.stops(o.peer, s, api.TimeCheck, o.Finish().Stop)
	c.lines.Drop(s, false)
	c.tell(api.Notice{Kind: api.NoteDone, Session: s})
	c.owe(api.RecTold, s)
	if o.Out() {
		c.closes(s)
	}
	return nil
}

func (c *call) ackComes(p api.Peer, x api.Segment) error {
	m, there := c.imports[x.Session]
	if !there {
		c.sight.Late++
		return nil
	}
	c.stops(p, x.Session, api.TimeReport, m.Ack(x.Report).Stop)
	return c.shutIfClosed(m)
}

// shutIfClosed shuts an import of which both ends know all: a step of its own, which may as well come later.
func (c *call) shutIfClosed(m receiving) error {
	if !m.delivered() || !m.Closed() {
		return nil
	}
	return c.unlessFull(c.shut(m))
}

func (c *call) cancelOutComes(p api.Peer, x api.Segment) error {
	m, there := c.imports[x.Session]
	delivered := there && m.delivered()
	if there && !delivered {
		if err := c.endImport(m, x.Reason); err != nil {
			return err
		}
	}
	c.answer(p, api.Segment{Type: api.CancelOutOk, Session: x.Session})
	if !delivered {
		return nil
	}
	return c.unlessFull(c.shut(m))
}

func (c *call) cancelInComes(p api.Peer, x api.Segment) error {
	o, there := c.exports[x.Session]
	switch {
	case there && o.canFail():
		if err := c.endExport(x.Session, x.Reason); err != nil {
			return err
		}
	case there:
		c.closes(x.Session)
	}
	c.answer(p, api.Segment{Type: api.CancelInOk, Session: x.Session})
	return nil
}

func (c *call) cancelOkComes(_ api.Peer, x api.Segment) error {
	k := cancelKey{x.Session, api.CancelOut}
	if x.Type == api.CancelInOk {
		k.kind = api.CancelIn
	}
	o, underWay := c.cancels[k]
	if !underWay {
		c.sight.Late++
		return nil
	}
	delete(c.cancels, k)
	c.timers.Stop(k.timer(o.peer))
	c.lines.Drop(x.Session, true)
	return nil
}
