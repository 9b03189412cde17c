package table

import (
	"cmp"
	"maps"
	"slices"

	"lantern/api"
)

// State tells all of it.
func (t *Table) State() api.State {
	s := api.State{Id: t.id, Boots: t.boots, Next: t.next}
	for _, key := range sorted(t.exports) {
		x := t.exports[key]
		x.Data = slices.Clone(x.Data)
		s.Outgoing = append(s.Outgoing, x)
	}
	for _, key := range sorted(t.imports) {
		i := t.imports[key]
		i.Have, i.Data = slices.Clone(i.Have), slices.Clone(i.Data)
		s.Incoming = append(s.Incoming, i)
	}
	for _, origin := range slices.Sorted(maps.Keys(t.tombs)) {
		s.Tombs = append(s.Tombs, api.Tomb{Origin: origin, Spans: slices.Clone(t.tombs[origin])})
	}
	return s
}

// sorted are the sessions of a map, by their origins, then by their numbers.
func sorted[V any](m map[api.Session]V) []api.Session {
	return slices.SortedFunc(maps.Keys(m), func(a, b api.Session) int {
		return cmp.Or(cmp.Compare(a.Origin, b.Origin), cmp.Compare(a.Number, b.Number))
	})
}

// Snapshot is a short row of records that come to the same.
func (t *Table) Snapshot() []api.Record {
	s := t.State()
	l := slices.Concat(bootOf(s), exportsOf(s))
	for _, i := range s.Incoming {
		l = append(l, importOf(i)...)
	}
	for _, x := range s.Tombs {
		l = append(l, api.Record{Kind: api.RecTomb, Size: x.Origin, Spans: x.Spans})
	}
	return l
}

// of is a record that has no fields but the session.
func of(kind int, s api.Session) api.Record { return api.Record{Kind: kind, Session: s} }

func bootOf(s api.State) []api.Record {
	if s.Id == 0 {
		return nil
	}
	return []api.Record{{Kind: api.RecBoot, Session: api.Session{Origin: s.Id}, Size: s.Boots}}
}

// exportsOf are the records of all exports, and of the next one's number.
func exportsOf(s api.State) []api.Record {
	var l []api.Record
	next := 1
	for _, x := range s.Outgoing {
		l = append(l, exportOf(x)...)
		next = x.Session.Number + 1
	}
	if s.Next != next {
		l = append(l, api.Record{Kind: api.RecNext, Size: s.Next})
	}
	return l
}

func exportOf(x api.Outgoing) []api.Record {
	open := of(api.RecOpen, x.Session)
	open.Peer, open.Service, open.Red, open.Size, open.Data = x.Peer, x.Service, x.Red, x.Size, x.Data
	if !x.Ended {
		return []api.Record{open}
	}
	end := of(api.RecEnd, x.Session)
	end.How = x.How
	return []api.Record{open, end}
}

func importOf(i api.Incoming) []api.Record {
	switch {
	case i.Gone:
		gone := of(api.RecGone, i.Session)
		gone.How = i.How
		return []api.Record{gone}
	case i.Heard:
		past := of(api.RecPast, i.Session)
		past.Service, past.Red, past.Size = i.Service, i.Red, i.Size
		return []api.Record{past}
	}
	l := redsOf(i)
	if i.Delivered {
		l = append(l, of(api.RecDone, i.Session))
	}
	if i.Shut {
		l = append(l, of(api.RecShut, i.Session))
	}
	return l
}

// redsOf are the records of an import's bytes, one of each span.
func redsOf(i api.Incoming) []api.Record {
	var l []api.Record
	for _, have := range i.Have {
		r := of(api.RecRed, i.Session)
		r.Service, r.Red, r.Size = i.Service, i.Red, i.Size
		r.Offset, r.Data = have.From, slices.Clone(i.Data[have.From:have.To])
		l = append(l, r)
	}
	return l
}
