package engine

import (
	"slices"

	"lantern/api"
	"lantern/claims"
	"lantern/disk"
	"lantern/export"
	"lantern/imports"
	"lantern/journal"
	"lantern/lines"
	"lantern/table"
	"lantern/timers"
)

// Boot lets one run on a disk, from a tick on.
func Boot(d *disk.Disk, c api.Config, now int) (*Engine, api.Out, error) {
	switch {
	case !between(now, 0, api.MaxTick):
		return nil, api.Out{}, api.ErrArg
	case !mayBe(c):
		return nil, api.Out{}, api.ErrEngineConfig
	}
	j, t, err := open(d, c.Id)
	if err != nil {
		return nil, api.Out{}, err
	}
	if err := writeBoot(j, t, c); err != nil {
		return nil, api.Out{}, err
	}
	s := t.State()
	first := &call{Engine: &Engine{
		config:  copyOf(c),
		journal: j,
		table:   t,
		exports: map[api.Session]sending{},
		imports: map[api.Session]receiving{},
		lines:   lines.New(c.Queue),
		timers:  timers.New(),
		cancels: map[cancelKey]cancel{},
		sight:   api.Sight{Now: now, Boots: s.Boots, Next: s.Next},
	}}
	first.goOn(s)
	first.replay(s)
	return first.Engine, first.out, nil
}

// open is the journal of a disk, and what it comes to, if the engine of that number can be booted by it.
func open(d *disk.Disk, id int) (*journal.Journal, *table.Table, error) {
	j, l, err := journal.Open(d)
	if err != nil {
		return nil, nil, said(err)
	}
	t, _, fault := table.Load(l)
	if fault != api.OK {
		return nil, nil, fault
	}
	switch s := t.State(); {
	case len(l) > 0 && s.Id != id:
		return nil, nil, api.ErrEngineConfig
	case s.Boots == api.MaxBoots:
		return nil, nil, api.ErrEngineBoots
	}
	return j, t, nil
}

// writeBoot writes what a boot comes to, into the journal and into the table.
func writeBoot(j *journal.Journal, t *table.Table, c api.Config) error {
	l := bootRecords(t.State(), c)
	for _, r := range l {
		t.Apply(r) // it can follow: it is made by what the table has
	}
	err := said(j.Write(l, true))
	if refused(err, api.ErrFull) {
		return said(j.Rewrite(t.Snapshot()))
	}
	return err
}

// bootRecords are those of a boot behind which a state is found.
func bootRecords(s api.State, c api.Config) []api.Record {
	l := []api.Record{{Kind: api.RecBoot, Session: api.Session{Origin: c.Id}, Size: s.Boots + 1}}
	for _, x := range s.Incoming {
		if !x.Gone && !x.Shut {
			l = append(l, settled(x, isPeer(c.Peers, x.Session.Origin))...)
		}
	}
	for _, x := range s.Outgoing {
		if !x.Ended && !isPeer(c.Peers, x.Peer) {
			l = append(l, api.Record{Kind: api.RecEnd, Session: x.Session, How: 1 + api.BySystem})
		}
	}
	return l
}

// settled are the records of an import that is found open: one that is whole is delivered, one that has no peer any more is closed.
func settled(x api.Incoming, peer bool) []api.Record {
	var l []api.Record
	whole := x.Red > 0 && claims.Covers(x.Have, api.Span{To: x.Red})
	if whole && !x.Delivered {
		l = append(l, api.Record{Kind: api.RecDone, Session: x.Session})
	}
	switch {
	case peer:
		return l
	case whole:
		return append(l, api.Record{Kind: api.RecShut, Session: x.Session})
	}
	return append(l, api.Record{Kind: api.RecGone, Session: x.Session, How: api.BySystem})
}

// goOn takes up what is open in a state.
func (c *call) goOn(s api.State) {
	for _, x := range s.Outgoing {
		if !x.Ended {
			c.sendAgain(x)
		}
	}
	for _, x := range s.Incoming {
		if !x.Gone && !x.Shut {
			c.receiveAgain(x)
		}
	}
	c.holdOrGo()
}

// sendAgain goes on with an export.
func (c *call) sendAgain(x api.Outgoing) {
	p, _ := c.peer(x.Peer) // one without a peer was ended
	o, moves, _ := export.Open(x.Session, c.parcel(p, x.Service, x.Size, x.Red), x.Data, c.config.Rules, c.base(), true)
	c.exports[x.Session] = sending{Export: o, peer: p}
	c.put(p, moves.Send)
}

// receiveAgain goes on with an import.
func (c *call) receiveAgain(x api.Incoming) {
	p, _ := c.peer(x.Session.Origin) // one without a peer was closed
	i, moves, _ := imports.Back(x, p.Mtu, c.config.Rules, c.base())
	m := receiving{Import: i, session: x.Session, service: x.Service, peer: p}
	c.imports[x.Session] = m
	c.put(p, moves.Send)
	c.idles(m)
}

// replay tells again what may not have been told.
func (c *call) replay(s api.State) {
	for _, x := range s.Outgoing {
		if x.Ended {
			c.tell(ending(x))
			c.owe(api.RecTold, x.Session)
		}
	}
	for _, x := range s.Incoming {
		if !x.Heard && (x.Delivered || x.Gone) {
			c.tell(outcome(x))
			c.owe(api.RecHeard, x.Session)
		}
	}
}

// ending tells how an export has ended.
func ending(x api.Outgoing) api.Notice {
	n := api.Notice{Kind: api.NoteDone, Session: x.Session, Replayed: true}
	if x.How > 0 {
		n.Kind, n.How = api.NoteOff, x.How-1
	}
	return n
}

// outcome tells what became of an import.
func outcome(x api.Incoming) api.Notice {
	n := api.Notice{Session: x.Session, Service: x.Service, Replayed: true}
	if x.Gone {
		n.Kind, n.How = api.NoteGone, x.How
		return n
	}
	n.Kind, n.Data = api.NoteRed, slices.Clone(x.Data[:x.Red])
	return n
}
