package table

import (
	"slices"

	"lantern/api"
	"lantern/claims"
)

// row is what a kind of record asks of the state that it follows, and what that comes to by it.
type row struct {
	can  func(*Table, api.Record) bool
	then func(*Table, api.Record)
}

// rowOf is the row of a kind that there is.
func rowOf(kind int) row {
	rows := [...]row{
		api.RecBoot:  {(*Table).canBoot, (*Table).boot},
		api.RecNext:  {(*Table).canSkip, (*Table).skip},
		api.RecOpen:  {(*Table).canOpen, (*Table).open},
		api.RecEnd:   {(*Table).canEnd, (*Table).end},
		api.RecTold:  {(*Table).canForget, (*Table).forget},
		api.RecRed:   {(*Table).canTake, (*Table).take},
		api.RecDone:  {(*Table).canDeliver, (*Table).deliver},
		api.RecGone:  {(*Table).canCancel, (*Table).cancel},
		api.RecHeard: {(*Table).canHear, (*Table).hear},
		api.RecShut:  {(*Table).canShut, (*Table).shut},
		api.RecTomb:  {(*Table).canBury, (*Table).buryAll},
		api.RecPast:  {(*Table).canRecall, (*Table).recall},
	}
	return rows[kind]
}

func (t *Table) canBoot(r api.Record) bool {
	return (t.id == 0 || t.id == r.Session.Origin) && (t.boots == 0 || t.boots+1 == r.Size)
}

func (t *Table) boot(r api.Record) { t.id, t.boots = r.Session.Origin, r.Size }

func (t *Table) canSkip(r api.Record) bool { return r.Size >= t.next }

func (t *Table) skip(r api.Record) { t.next = r.Size }

func (t *Table) canOpen(r api.Record) bool {
	return r.Session.Origin == t.id && r.Session.Number >= t.next && r.Peer != t.id
}

func (t *Table) open(r api.Record) {
	t.exports[r.Session] = api.Outgoing{
		Session: r.Session,
		Peer:    r.Peer,
		Service: r.Service,
		Red:     r.Red,
		Size:    r.Size,
		Data:    slices.Clone(r.Data),
	}
	t.next = r.Session.Number + 1
}

func (t *Table) canEnd(r api.Record) bool {
	x, there := t.exports[r.Session]
	return there && !x.Ended
}

func (t *Table) end(r api.Record) {
	x := t.exports[r.Session]
	x.Ended, x.How = true, r.How
	t.exports[r.Session] = x
}

func (t *Table) canForget(r api.Record) bool {
	x, there := t.exports[r.Session]
	return there && x.Ended
}

func (t *Table) forget(r api.Record) { delete(t.exports, r.Session) }

// canBegin tells whether there can be an import of a session of which there is none.
func (t *Table) canBegin(s api.Session) bool {
	_, there := t.imports[s]
	return !there && s.Origin != t.id && !t.Closed(s)
}

// undecided tells whether there is an import of a session of which is not known yet how it ends.
func (t *Table) undecided(s api.Session) bool {
	i, there := t.imports[s]
	return there && !i.Delivered && !i.Gone
}

func (t *Table) canTake(r api.Record) bool {
	if t.canBegin(r.Session) {
		return true
	}
	i := t.imports[r.Session]
	return t.undecided(r.Session) && i.Service == r.Service &&
		agree(i.Red, r.Red, len(i.Data)) && agree(i.Size, r.Size, len(i.Data))
}

// agree tells whether a length is the one that is known, if it is, and not below the end of what came; 0 is one that is not known.
func agree(known, told, end int) bool {
	return (known == 0 || told == known) && (told == 0 || told >= end)
}

func (t *Table) take(r api.Record) {
	i := t.imports[r.Session]
	i.Session, i.Service, i.Red, i.Size = r.Session, r.Service, r.Red, r.Size
	i.Data = laid(i, r)
	i.Have, _ = t.grown(r) // that it fits was asked ahead
	t.imports[r.Session] = i
}

// places are those to which a record's bytes come.
func places(r api.Record) api.Span { return api.Span{From: r.Offset, To: r.Offset + len(r.Data)} }

// grown is where bytes came, with those of a record.
func (t *Table) grown(r api.Record) ([]api.Span, api.Errno) {
	have, _, e := claims.Add(t.imports[r.Session].Have, places(r))
	return have, e
}

// laid is the bytes of an import with those of a record that had not come yet.
func laid(i api.Incoming, r api.Record) []byte {
	at := places(r)
	data := i.Data
	if lacks := at.To - len(data); lacks > 0 {
		data = append(data, make([]byte, lacks)...)
	}
	// Of the gaps there can be more than a set has spans, so they are walked by.
	for piece, came := range claims.Walk(i.Have, at) {
		if !came {
			copy(data[piece.From:piece.To], r.Data[piece.From-at.From:])
		}
	}
	return data
}

func (t *Table) canDeliver(r api.Record) bool {
	i := t.imports[r.Session]
	return t.undecided(r.Session) && i.Red != 0 && claims.Covers(i.Have, api.Span{To: i.Red})
}

func (t *Table) deliver(r api.Record) {
	i := t.imports[r.Session]
	i.Delivered = true
	t.imports[r.Session] = i
}

func (t *Table) canRecall(r api.Record) bool { return t.canBegin(r.Session) }

func (t *Table) recall(r api.Record) {
	t.imports[r.Session] = api.Incoming{
		Session:   r.Session,
		Service:   r.Service,
		Red:       r.Red,
		Size:      r.Size,
		Have:      []api.Span{{To: r.Red}},
		Delivered: true,
		Heard:     true,
	}
}

func (t *Table) canCancel(r api.Record) bool {
	return t.canBegin(r.Session) || t.undecided(r.Session)
}

func (t *Table) cancel(r api.Record) {
	t.imports[r.Session] = api.Incoming{Session: r.Session, Gone: true, How: r.How}
}

func (t *Table) canHear(r api.Record) bool {
	i, there := t.imports[r.Session]
	return there && (i.Delivered || i.Gone) && !i.Heard
}

func (t *Table) hear(r api.Record) {
	i := t.imports[r.Session]
	i.Heard, i.Data = true, nil
	t.settle(i)
}

func (t *Table) canShut(r api.Record) bool {
	i, there := t.imports[r.Session]
	return there && i.Delivered && !i.Shut
}

func (t *Table) shut(r api.Record) {
	i := t.imports[r.Session]
	i.Shut = true
	t.settle(i)
}

// settle keeps an import, if there is something left to be done with it; else it leaves.
func (t *Table) settle(i api.Incoming) {
	if !i.Heard || !i.Gone && !i.Shut {
		t.imports[i.Session] = i
		return
	}
	delete(t.imports, i.Session)
	t.bury(i.Session.Origin, []api.Span{single(i.Session.Number)})
}

func (t *Table) canBury(r api.Record) bool { return r.Size != t.id }

func (t *Table) buryAll(r api.Record) { t.bury(r.Size, r.Spans) }

// bury puts numbers into an origin's tomb.
func (t *Table) bury(origin int, l []api.Span) {
	// Each has at most MaxTombs spans: both together are not too many for a set.
	set, _ := claims.Union(t.tombs[origin], l)
	t.tombs[origin] = narrowed(set)
}

// narrowed is a set whose lowest spans became one, so that they are not too many for a tomb.
func narrowed(l []api.Span) []api.Span {
	over := len(l) - api.MaxTombs
	if over <= 0 {
		return l
	}
	l[0].To = l[over].To
	return slices.Delete(l, 1, over+1)
}
