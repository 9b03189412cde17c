package engine

import (
	"lantern/api"
	"lantern/plan"
	"lantern/record"
	"lantern/segment"
	"lantern/table"
)

// tick does the steps of a tick, one behind the other.
func (c *call) tick() error {
	if c.sight.Now == api.MaxTick {
		return api.ErrBig
	}
	if err := c.payOwed(); err != nil {
		return err
	}
	c.sight.Now++
	c.holdOrGo()
	if err := c.runOut(); err != nil {
		return err
	}
	c.goOut()
	return c.compact()
}

// payOwed writes what is owed; what was told is not needed any more then.
func (c *call) payOwed() error {
	if len(c.owed) == 0 {
		return nil
	}
	if err := c.write(false, c.owed...); err != nil {
		return c.unlessFull(err)
	}
	for _, r := range c.owed {
		if m, there := c.imports[r.Session]; there && r.Kind == api.RecHeard {
			m.Drop()
		}
	}
	c.owed = nil
	return nil
}

// rate is how many segments can go to a peer in this tick.
func (c *call) rate(p api.Peer) int { return plan.Rate(c.config.Contacts, p.Id, c.sight.Now) }

// holdOrGo lets the timers of each peer stand still or run, as its link is shut or open.
func (c *call) holdOrGo() {
	for _, p := range c.config.Peers {
		if c.rate(p) == 0 {
			c.timers.Hold(p.Id)
		} else {
			c.timers.Go(p.Id)
		}
	}
}

// runOut does what is to be done as timers run out. What finds no room is tried again a tick later.
func (c *call) runOut() error {
	for _, k := range c.timers.Tick() {
		err := c.ranOut(k)
		if refused(err, api.ErrFull) {
			c.timers.Start(k, 1)
		}
		if err := c.unlessFull(err); err != nil {
			return err
		}
	}
	return nil
}

// ranOut does what is to be done as one timer has run out.
func (c *call) ranOut(k api.Key) error {
	switch k.Kind {
	case api.TimeCheck:
		return c.checkLate(k)
	case api.TimeReport:
		return c.reportLate(k)
	case api.TimeCancel:
		c.cancelLate(cancelKey{k.Session, k.Serial})
		return nil
	}
	m, there := c.imports[k.Session]
	if !there {
		return nil
	}
	return c.leave(m, api.BySystem)
}

func (c *call) checkLate(k api.Key) error {
	o, there := c.exports[k.Session]
	if !there {
		return nil
	}
	moves := o.Late(k.Serial)
	if moves.Over {
		return c.cancelExport(k.Session, o, moves.Why)
	}
	c.put(o.peer, moves.Send)
	return nil
}

func (c *call) reportLate(k api.Key) error {
	m, there := c.imports[k.Session]
	if !there {
		return nil
	}
	moves := m.Late(k.Serial)
	if moves.Over {
		return c.leave(m, moves.Why)
	}
	c.put(m.peer, moves.Send)
	return nil
}

func (c *call) cancelLate(k cancelKey) {
	o, underWay := c.cancels[k]
	if !underWay {
		return
	}
	if o.again == c.config.Rules.Retry {
		delete(c.cancels, k)
		return
	}
	o.again++
	c.cancels[k] = o
	c.put(o.peer, []api.Segment{k.segment(o.reason)})
}

// goOut lets go out what can in this tick.
func (c *call) goOut() {
	for _, p := range c.config.Peers {
		for _, x := range c.lines.Take(p.Id, c.rate(p)) {
			b, _ := segment.Print(x) // what a line took is right
			c.out.Sends = append(c.out.Sends, api.Send{Peer: p.Id, Bytes: b})
			rowOf(x.Type).goes(c, p, x)
		}
	}
}

func (c *call) dataGoes(p api.Peer, x api.Segment) {
	o, there := c.exports[x.Session]
	if !there {
		return
	}
	moves := o.Sent(x)
	c.starts(p, x.Session, api.TimeCheck, moves.Start)
	if !moves.Sent {
		return
	}
	c.tell(api.Notice{Kind: api.NoteSent, Session: x.Session})
	if !o.canFail() {
		c.closes(x.Session)
	}
}

func (c *call) reportGoes(p api.Peer, x api.Segment) {
	if m, there := c.imports[x.Session]; there {
		c.starts(p, x.Session, api.TimeReport, m.Sent(x.Report).Start)
	}
}

func (c *call) cancelGoes(p api.Peer, x api.Segment) {
	k := cancelKey{x.Session, x.Type}
	if _, underWay := c.cancels[k]; underWay {
		c.timers.Start(k.timer(p), p.Timeout)
	}
}

// answerGoes does nothing: an answer is not answered.
func (c *call) answerGoes(api.Peer, api.Segment) {}

// compact writes the journal anew, if it has grown and half of it would do.
func (c *call) compact() error {
	size := c.journal.Size()
	if size < c.config.Compact || size == c.lean {
		return nil
	}
	l := c.snapshot()
	if framed(l) > size/2 {
		c.lean = size
		return nil
	}
	err := said(c.journal.Rewrite(l))
	switch {
	case refused(err, api.ErrFull):
		return nil
	case err != nil:
		return err
	}
	c.lean = 0
	return nil
}

// snapshot is that of the table behind what was written. The table itself does not follow yet, as the power can still go.
func (c *call) snapshot() []api.Record {
	l := c.table.Snapshot()
	if len(c.written) == 0 {
		return l
	}
	behind, _, _ := table.Load(append(l, c.written...))
	return behind.Snapshot()
}

// frameHead is what a frame has beside its record: a length and a sum.
const frameHead = 8

// framed is how many bytes the frames of records have. To make the frames would take far longer, as of each the sum is found.
func framed(l []api.Record) int {
	n := 0
	for _, r := range l {
		b, _ := record.Print(r) // a table's records may be
		n += frameHead + len(b)
	}
	return n
}
