package engine

import (
	"slices"

	"lantern/api"
	"lantern/imports"
)

// tooLate tells whether data are of a session with which nothing goes on, or not with these.
func (c *call) tooLate(x api.Segment) bool {
	m, there := c.imports[x.Session]
	_, cancelled := c.cancels[cancelKey{x.Session, api.CancelIn}]
	return cancelled || there && m.service != x.Service || c.table.Closed(x.Session)
}

// serves tells whether a service is one of ours.
func (c *call) serves(service int) bool { return slices.Contains(c.config.Services, service) }

func (c *call) redComes(p api.Peer, x api.Segment) error {
	if c.tooLate(x) {
		c.sight.Late++
		return nil
	}
	m, there := c.imports[x.Session]
	if !there {
		return c.firstRed(p, x)
	}
	v, _ := m.Look(x) // it is data of this import
	if why, bad := c.whyNot(v); bad {
		return c.reject(m, why)
	}
	return c.takeRed(m, x, v)
}

// whyNot tells why red data are not taken, if they are not.
func (c *call) whyNot(v api.Verdict) (int, bool) {
	switch {
	case v.Wrong:
		return api.Miscolored, true
	case v.Big:
		return api.BySystem, true
	case v.Cycle:
		return api.ByCycles, true
	}
	return api.BySystem, v.Fresh+c.held() > c.config.Hold
}

// reject ends an import by data that can't be taken; one that is delivered has no need of them.
func (c *call) reject(m receiving, why int) error {
	if m.delivered() {
		c.sight.Late++
		return nil
	}
	return c.cancelImport(m, why)
}

// firstRed begins an import, if there is room for it.
func (c *call) firstRed(p api.Peer, x api.Segment) error {
	if !c.serves(x.Service) {
		c.noService(p, x.Session)
		return nil
	}
	if len(c.imports) >= c.config.Sessions || len(x.Data)+c.held() > c.config.Hold {
		c.sight.Refused++
		return nil
	}
	i, _ := imports.Open(x.Session, x.Service, p.Mtu, c.config.Rules, c.base()) // all of these may be
	v, _ := i.Look(x)
	return c.takeRed(receiving{Import: i, session: x.Session, service: x.Service, peer: p}, x, v)
}

// noService tells the other end that nobody is here for a session, if not too much is told already.
func (c *call) noService(p api.Peer, s api.Session) {
	underWay := 0
	for k := range c.cancels {
		if k.kind == api.CancelIn {
			underWay++
		}
	}
	if underWay >= c.config.Sessions || c.lines.Count(p.Id) >= c.config.Queue {
		c.sight.Refused++
		return
	}
	c.begins(cancelKey{s, api.CancelIn}, p, api.NoService)
}

// takeRed takes red data as they were looked at, into an import that may be new.
func (c *call) takeRed(m receiving, x api.Segment, v api.Verdict) error {
	if err := c.write(x.Check > 0 || v.Whole, redRecords(m, x, v)...); err != nil {
		return err
	}
	_, there := c.imports[x.Session]
	c.imports[x.Session] = m
	moves, _ := m.Take(x)
	c.sight.Clash += v.Clash
	if !there {
		c.tell(api.Notice{Kind: api.NoteStart, Session: x.Session, Service: x.Service})
	}
	if v.Whole {
		c.tell(api.Notice{Kind: api.NoteRed, Session: x.Session, Service: x.Service, Data: m.Bytes()})
		c.owe(api.RecHeard, x.Session)
	}
	c.idles(m)
	c.put(m.peer, moves.Send)
	return nil
}

// redRecords are the records of red data.
func redRecords(m receiving, x api.Segment, v api.Verdict) []api.Record {
	var l []api.Record
	if v.Fresh > 0 || v.Red > 0 && m.Red() == 0 {
		l = append(l, api.Record{
			Kind:    api.RecRed,
			Session: x.Session,
			Service: x.Service,
			Offset:  x.Offset,
			Red:     v.Red,
			Size:    v.Size,
			Data:    x.Data,
		})
	}
	if v.Whole {
		l = append(l, api.Record{Kind: api.RecDone, Session: x.Session})
	}
	return l
}

func (c *call) greenComes(_ api.Peer, x api.Segment) error {
	if c.tooLate(x) {
		c.sight.Late++
		return nil
	}
	if !c.serves(x.Service) {
		c.sight.Refused++
		return nil
	}
	m, there := c.imports[x.Session]
	if there {
		if v, _ := m.Look(x); v.Wrong {
			return c.reject(m, api.Miscolored)
		}
		m.Take(x)
		c.idles(m)
	}
	c.tell(api.Notice{
		Kind:    api.NoteGreen,
		Session: x.Session,
		Service: x.Service,
		Offset:  x.Offset,
		Last:    x.Type == api.GreenLast,
		Data:    x.Data,
	})
	if !there {
		return nil
	}
	return c.shutIfClosed(m)
}
