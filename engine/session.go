package engine

import (
	"lantern/api"
	"lantern/export"
	"lantern/imports"
)

// sending is an export that is there.
type sending struct {
	*export.Export
	peer       api.Peer
	greenAlone bool
}

// canFail tells whether it can still end otherwise than well.
func (x sending) canFail() bool { return !x.greenAlone && !x.Whole() }

// receiving is an import that is there.
type receiving struct {
	*imports.Import
	session api.Session
	service int
	peer    api.Peer
}

// delivered tells whether that was recorded: it is, as soon as the red part is whole.
func (m receiving) delivered() bool { return m.Whole() }

// cancelKey is of which session a cancel under way is, and of which type.
type cancelKey struct {
	session api.Session
	kind    int
}

// cancel is one that is under way.
type cancel struct {
	peer          api.Peer
	reason, again int // again: how often it was sent again
}

// segment is that of a cancel.
func (k cancelKey) segment(reason int) api.Segment {
	return api.Segment{Type: k.kind, Session: k.session, Reason: reason}
}

// timer is the key of a cancel's timer.
func (k cancelKey) timer(p api.Peer) api.Key {
	return api.Key{Peer: p.Id, Session: k.session, Kind: api.TimeCancel, Serial: k.kind}
}

// parcel is how a block for a peer is cut.
func (e *Engine) parcel(p api.Peer, service, size, red int) api.Parcel {
	return api.Parcel{Service: service, Size: size, Red: red, Mtu: p.Mtu, Every: e.config.Every}
}

// put puts segments into a peer's line; no answers, so that it takes them all.
func (e *Engine) put(p api.Peer, l []api.Segment) {
	for _, x := range l {
		e.lines.Put(p.Id, x)
	}
}

// answer puts an answer into a peer's line, if it takes one more.
func (e *Engine) answer(p api.Peer, x api.Segment) {
	if e.lines.Put(p.Id, x) != api.OK {
		e.sight.Lost++
	}
}

// starts starts timers of a kind, by their serials.
func (e *Engine) starts(p api.Peer, s api.Session, kind int, serials []int) {
	for _, n := range serials {
		e.timers.Start(api.Key{Peer: p.Id, Session: s, Kind: kind, Serial: n}, p.Timeout)
	}
}

// stops stops timers of a kind, by their serials.
func (e *Engine) stops(p api.Peer, s api.Session, kind int, serials []int) {
	for _, n := range serials {
		e.timers.Stop(api.Key{Peer: p.Id, Session: s, Kind: kind, Serial: n})
	}
}

// idles starts an import's idle timer, anew if it runs.
func (e *Engine) idles(m receiving) {
	e.timers.Start(api.Key{Peer: m.peer.Id, Session: m.session, Kind: api.TimeIdle}, e.config.Idle)
}

// closes closes a session's object: an export or an import, as no session has both.
func (e *Engine) closes(s api.Session) {
	delete(e.exports, s)
	delete(e.imports, s)
	e.timers.Drop(s)
	e.lines.Drop(s, true)
	delete(e.cancels, cancelKey{s, api.CancelOut})
	delete(e.cancels, cancelKey{s, api.CancelIn})
}

// begins begins a cancel.
func (e *Engine) begins(k cancelKey, p api.Peer, reason int) {
	if _, underWay := e.cancels[k]; underWay {
		return
	}
	e.cancels[k] = cancel{peer: p, reason: reason}
	e.put(p, []api.Segment{k.segment(reason)})
}

// endExport ends an export otherwise than well, and tells nobody but the client.
func (c *call) endExport(s api.Session, why int) error {
	if err := c.write(true, api.Record{Kind: api.RecEnd, Session: s, How: 1 + why}); err != nil {
		return err
	}
	c.tell(api.Notice{Kind: api.NoteOff, Session: s, How: why})
	c.owe(api.RecTold, s)
	c.closes(s)
	return nil
}

// cancelExport ends one, and tells the other end.
func (c *call) cancelExport(s api.Session, x sending, why int) error {
	if err := c.endExport(s, why); err != nil {
		return err
	}
	c.begins(cancelKey{s, api.CancelOut}, x.peer, why)
	return nil
}

// endImport ends an import that is not delivered, and tells nobody but the client.
func (c *call) endImport(m receiving, why int) error {
	if err := c.write(true, api.Record{Kind: api.RecGone, Session: m.session, How: why}); err != nil {
		return err
	}
	c.tell(api.Notice{Kind: api.NoteGone, Session: m.session, Service: m.service, How: why})
	c.owe(api.RecHeard, m.session)
	c.closes(m.session)
	return nil
}

// cancelImport ends one, and tells the other end.
func (c *call) cancelImport(m receiving, why int) error {
	if err := c.endImport(m, why); err != nil {
		return err
	}
	c.begins(cancelKey{m.session, api.CancelIn}, m.peer, why)
	return nil
}

// shut closes an import that is delivered.
func (c *call) shut(m receiving) error {
	if err := c.write(false, api.Record{Kind: api.RecShut, Session: m.session}); err != nil {
		return err
	}
	c.closes(m.session)
	return nil
}

// leave is the end of an import with which nothing goes on: one that is delivered was not in vain.
func (c *call) leave(m receiving, why int) error {
	if m.delivered() {
		return c.shut(m)
	}
	return c.cancelImport(m, why)
}
