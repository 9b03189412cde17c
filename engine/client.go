package engine

import (
	"lantern/api"
	"lantern/blocks"
	"lantern/export"
)

// submit opens an export, and tells its number.
func (c *call) submit(peer, service int, block []byte, red int) (int, error) {
	p, there := c.peer(peer)
	if !there {
		return 0, api.ErrEnginePeer
	}
	parcel := c.parcel(p, service, len(block), red)
	s := api.Session{Origin: c.config.Id, Number: c.sight.Next}
	if err := c.takes(s, p, parcel); err != nil {
		return 0, err
	}
	if err := c.write(true, opening(s, p, parcel, block)); err != nil {
		return 0, err
	}
	c.sight.Next++
	x, moves, _ := export.Open(s, parcel, block, c.config.Rules, c.base(), false)
	c.exports[s] = sending{Export: x, peer: p, greenAlone: red == 0}
	c.put(p, moves.Send)
	return s.Number, nil
}

// takes tells why a block is not taken, if it is not.
func (c *call) takes(s api.Session, p api.Peer, parcel api.Parcel) error {
	last := s.Number == api.MaxNum
	if last {
		s.Number-- // so that the block is judged by itself
	}
	pieces, fault := blocks.Cut(s, parcel, c.base())
	switch {
	case fault != api.OK:
		return api.ErrEngineBlock
	case len(c.exports) >= c.config.Sessions || len(pieces)+c.lines.Count(p.Id) > c.config.Queue:
		return api.ErrEngineQueue
	case last:
		return api.ErrBig
	}
	return nil
}

// opening is the record of a new export: of green bytes alone nothing is kept but that the number is given.
func opening(s api.Session, p api.Peer, parcel api.Parcel, block []byte) api.Record {
	if parcel.Red == 0 {
		return api.Record{Kind: api.RecNext, Size: s.Number + 1}
	}
	return api.Record{
		Kind:    api.RecOpen,
		Session: s,
		Peer:    p.Id,
		Service: parcel.Service,
		Red:     parcel.Red,
		Size:    parcel.Size,
		Data:    block[:parcel.Red],
	}
}

// cancel cancels a session that can still fail.
func (c *call) cancel(s api.Session) error {
	x, sends := c.exports[s]
	m, receives := c.imports[s]
	switch {
	case sends && x.greenAlone:
		c.cancelGreen(s, x)
		return nil
	case sends && x.canFail():
		return c.cancelExport(s, x, api.ByUser)
	case receives && !m.delivered():
		return c.cancelImport(m, api.ByUser)
	}
	return api.ErrEngineSession
}

// cancelGreen ends an export of which no record speaks: so none says that it is over.
func (c *call) cancelGreen(s api.Session, x sending) {
	c.tell(api.Notice{Kind: api.NoteOff, Session: s, How: api.ByUser})
	c.closes(s)
	c.begins(cancelKey{s, api.CancelOut}, x.peer, api.ByUser)
}
