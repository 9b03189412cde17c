package table_test

import (
	"bytes"
	"cmp"
	"fmt"
	"maps"
	"reflect"
	"slices"
	"testing"

	"lantern/api"
	"lantern/record"
	"lantern/table"
)

// What the chapter says, once more and in another way than the package: all records that followed are kept, and what a session is, is asked of those of them that speak of it.

const (
	top    = 1<<62 - 1 // MaxNum
	whole  = 65536     // MaxBlock
	limit  = 2000      // MaxSpans
	graves = 500       // MaxTombs
	ok     = api.OK
	order  = api.ErrTableOrder
	wrong  = api.ErrRecordKind
	big    = api.ErrBig
)

type model struct {
	l     []api.Record
	tombs map[int][]api.Span
}

func newModel(l ...api.Record) *model {
	m := &model{tombs: map[int][]api.Span{}}
	for _, r := range l {
		m.apply(r)
	}
	return m
}

// last is the last record of a kind.
func (m *model) last(kind int) (r api.Record) {
	for _, x := range m.l {
		if x.Kind == kind {
			r = x
		}
	}
	return r
}

func (m *model) id() int    { return m.last(1).Session.Origin }
func (m *model) boots() int { return m.last(1).Size }

func (m *model) next() int {
	n := 1
	for _, r := range m.l {
		switch r.Kind {
		case 2:
			n = max(n, r.Size)
		case 3:
			n = max(n, r.Session.Number+1)
		}
	}
	return n
}

// find is the first record of a session that is of one of these kinds.
func (m *model) find(s api.Session, kinds ...int) (api.Record, bool) {
	for _, r := range m.l {
		if r.Session == s && slices.Contains(kinds, r.Kind) {
			return r, true
		}
	}
	return api.Record{}, false
}

func (m *model) was(s api.Session, kinds ...int) bool {
	_, there := m.find(s, kinds...)
	return there
}

func (m *model) isExport(s api.Session) bool { return m.was(s, 3) && !m.was(s, 5) }

func (m *model) delivered(s api.Session) bool { return m.was(s, 7, 12) }
func (m *model) heard(s api.Session) bool     { return m.was(s, 9, 12) }
func (m *model) over(s api.Session) bool      { return m.was(s, 8, 10) }
func (m *model) left(s api.Session) bool      { return m.over(s) && m.heard(s) }
func (m *model) isImport(s api.Session) bool  { return m.was(s, 6, 8, 12) && !m.left(s) }

// closed is what the chapter's words say of a session.
func (m *model) closed(s api.Session) bool {
	if m.isImport(s) {
		return m.over(s)
	}
	return slices.ContainsFunc(m.tombs[s.Origin], func(x api.Span) bool { return x.From <= s.Number && s.Number < x.To })
}

// came are the bytes of a session, each at its place: the first that came stays.
func (m *model) came(s api.Session) map[int]byte {
	out := map[int]byte{}
	for _, r := range slices.Backward(m.l) {
		if r.Kind != 6 || r.Session != s {
			continue
		}
		for i, b := range r.Data {
			out[r.Offset+i] = b
		}
	}
	return out
}

// spansOf is the set of some places.
func spansOf(places map[int]byte) (l []api.Span) {
	for _, n := range slices.Sorted(maps.Keys(places)) {
		if _, ahead := places[n-1]; !ahead {
			l = append(l, api.Span{From: n})
		}
		l[len(l)-1].To = n + 1
	}
	return l
}

// can is what Can is to answer.
func (m *model) can(r api.Record) api.Errno {
	switch {
	case record.Right(r) != ok:
		return wrong
	case m.id() == 0 && r.Kind != 1 || !m.follows(r):
		return order
	case r.Kind == 6:
		return m.roomFor(r)
	}
	return ok
}

// roomFor is whether the places of a record's bytes, and those that came, are at most MaxSpans spans.
func (m *model) roomFor(r api.Record) api.Errno {
	places := m.came(r.Session)
	for i, b := range r.Data {
		places[r.Offset+i] = b
	}
	if len(spansOf(places)) > limit {
		return big
	}
	return ok
}

// follows is the second column of the chapter's table.
func (m *model) follows(r api.Record) bool {
	s := r.Session
	foreign := s.Origin != m.id()
	switch r.Kind {
	case 1:
		return (m.id() == 0 || !foreign) && (m.boots() == 0 || r.Size == m.boots()+1)
	case 2:
		return r.Size >= m.next()
	case 3:
		return !foreign && s.Number >= m.next() && r.Peer != m.id()
	case 4:
		return m.isExport(s) && !m.was(s, 4)
	case 5:
		return m.isExport(s) && m.was(s, 4)
	case 6:
		return foreign && m.mayTake(r)
	case 7:
		return m.isImport(s) && !m.was(s, 7, 8, 12) && m.isWhole(s)
	case 8:
		return foreign && (m.isImport(s) && !m.was(s, 7, 8, 12) || !m.isImport(s) && !m.closed(s))
	case 9:
		return m.isImport(s) && m.was(s, 7, 8, 12) && !m.heard(s)
	case 10:
		return m.isImport(s) && m.delivered(s) && !m.was(s, 10)
	case 11:
		return r.Size != m.id()
	case 12:
		return foreign && !m.isImport(s) && !m.closed(s)
	}
	return false
}

// mayTake is what stands in the row of RecRed behind the Origin.
func (m *model) mayTake(r api.Record) bool {
	s := r.Session
	if !m.isImport(s) {
		return !m.closed(s)
	}
	if m.was(s, 7, 8, 12) {
		return false
	}
	i := m.incoming(s)
	if i.Service != r.Service || i.Red != 0 && i.Red != r.Red || i.Size != 0 && i.Size != r.Size {
		return false
	}
	for place := range m.came(s) {
		if r.Red != 0 && r.Red < place+1 || r.Size != 0 && r.Size < place+1 {
			return false
		}
	}
	return true
}

// isWhole tells whether the red part's length is known, and each byte of it came.
func (m *model) isWhole(s api.Session) bool {
	red, places := m.incoming(s).Red, m.came(s)
	for n := range red {
		if _, in := places[n]; !in {
			return false
		}
	}
	return red != 0
}

// apply lets a record that can follow do so.
func (m *model) apply(r api.Record) {
	s := r.Session
	there := m.isImport(s)
	m.l = append(m.l, r)
	if r.Kind == 11 {
		m.bury(r.Size, r.Spans...)
	}
	if there && m.left(s) {
		m.bury(s.Origin, api.Span{From: s.Number, To: s.Number + 1})
	}
}

// bury puts numbers into a tomb: spans that touch become one, and then, one by one, the two lowest.
func (m *model) bury(origin int, l ...api.Span) {
	all := append(slices.Clone(m.tombs[origin]), l...)
	slices.SortFunc(all, func(a, b api.Span) int { return cmp.Compare(a.From, b.From) })
	for i := 0; i+1 < len(all); {
		if all[i].To < all[i+1].From {
			i++
			continue
		}
		all[i].To = max(all[i].To, all[i+1].To)
		all = slices.Delete(all, i+1, i+2)
	}
	for len(all) > graves {
		all[1].From = all[0].From
		all = all[1:]
	}
	m.tombs[origin] = all
}

// incoming is what the records of an import come to.
func (m *model) incoming(s api.Session) api.Incoming {
	if gone, is := m.find(s, 8); is {
		return api.Incoming{Session: s, Gone: true, How: gone.How}
	}
	i := api.Incoming{Session: s, Delivered: m.delivered(s), Heard: m.heard(s), Shut: m.was(s, 10)}
	for _, r := range m.l {
		if r.Session == s && (r.Kind == 6 || r.Kind == 12) {
			i.Service, i.Red, i.Size = r.Service, r.Red, r.Size
		}
	}
	if m.was(s, 12) {
		i.Have = spans(0, i.Red)
		return i
	}
	places := m.came(s)
	i.Have = spansOf(places)
	if i.Heard {
		return i
	}
	i.Data = make([]byte, i.Have[len(i.Have)-1].To)
	for place, b := range places {
		i.Data[place] = b
	}
	return i
}

func (m *model) outgoing(s api.Session) api.Outgoing {
	open, _ := m.find(s, 3)
	end, ended := m.find(s, 4)
	return api.Outgoing{Session: s, Peer: open.Peer, Service: open.Service, Red: open.Red, Size: open.Size, Data: open.Data, Ended: ended, How: end.How}
}

// sessions are all of which there was a record, in their order.
func (m *model) sessions() (l []api.Session) {
	for _, r := range m.l {
		if r.Session.Number != 0 && !slices.Contains(l, r.Session) {
			l = append(l, r.Session)
		}
	}
	slices.SortFunc(l, func(a, b api.Session) int {
		return cmp.Or(cmp.Compare(a.Origin, b.Origin), cmp.Compare(a.Number, b.Number))
	})
	return l
}

func (m *model) state() api.State {
	st := api.State{Id: m.id(), Boots: m.boots(), Next: m.next()}
	for _, s := range m.sessions() {
		if m.isExport(s) {
			st.Outgoing = append(st.Outgoing, m.outgoing(s))
		}
		if m.isImport(s) {
			st.Incoming = append(st.Incoming, m.incoming(s))
		}
	}
	for origin, l := range m.tombs {
		st.Tombs = append(st.Tombs, api.Tomb{Origin: origin, Spans: l})
	}
	slices.SortFunc(st.Tombs, func(a, b api.Tomb) int { return cmp.Compare(a.Origin, b.Origin) })
	return st
}

// shot are the records that P8.4 names of a state.
func shot(st api.State) (l []api.Record) {
	if st.Id != 0 {
		l = append(l, boot(st.Id, st.Boots))
	}
	next := 1
	for _, x := range st.Outgoing {
		l = append(l, api.Record{Kind: 3, Session: x.Session, Peer: x.Peer, Service: x.Service, Red: x.Red, Size: x.Size, Data: x.Data})
		if x.Ended {
			l = append(l, api.Record{Kind: 4, Session: x.Session, How: x.How})
		}
		next = x.Session.Number + 1
	}
	if st.Next != next {
		l = append(l, skip(st.Next))
	}
	for _, i := range st.Incoming {
		l = append(l, shotOf(i)...)
	}
	for _, x := range st.Tombs {
		l = append(l, api.Record{Kind: 11, Size: x.Origin, Spans: x.Spans})
	}
	return l
}

// shotOf are those of an import.
func shotOf(i api.Incoming) (l []api.Record) {
	if i.Gone {
		return []api.Record{{Kind: 8, Session: i.Session, How: i.How}}
	}
	if i.Heard {
		return []api.Record{{Kind: 12, Session: i.Session, Service: i.Service, Red: i.Red, Size: i.Size}}
	}
	for _, h := range i.Have {
		l = append(l, api.Record{Kind: 6, Session: i.Session, Service: i.Service, Offset: h.From, Red: i.Red, Size: i.Size, Data: i.Data[h.From:h.To]})
	}
	if i.Delivered {
		l = append(l, api.Record{Kind: 7, Session: i.Session})
	}
	if i.Shut {
		l = append(l, api.Record{Kind: 10, Session: i.Session})
	}
	return l
}

// sameRecord tells whether two records are one; a list that is nil is one that is empty (W5).
func sameRecord(a, b api.Record) bool {
	x, y := a, b
	x.Spans, x.Data, y.Spans, y.Data = nil, nil, nil, nil
	return reflect.DeepEqual(x, y) && slices.Equal(a.Spans, b.Spans) && bytes.Equal(a.Data, b.Data)
}

func sameAll(a, b []api.Record) bool { return slices.EqualFunc(a, b, sameRecord) }

func sameExport(a, b api.Outgoing) bool {
	x, y := a, b
	x.Data, y.Data = nil, nil
	return reflect.DeepEqual(x, y) && bytes.Equal(a.Data, b.Data)
}

func sameImport(a, b api.Incoming) bool {
	x, y := a, b
	x.Have, x.Data, y.Have, y.Data = nil, nil, nil, nil
	return reflect.DeepEqual(x, y) && slices.Equal(a.Have, b.Have) && bytes.Equal(a.Data, b.Data)
}

func sameTomb(a, b api.Tomb) bool { return a.Origin == b.Origin && slices.Equal(a.Spans, b.Spans) }

func same(a, b api.State) bool {
	return a.Id == b.Id && a.Boots == b.Boots && a.Next == b.Next &&
		slices.EqualFunc(a.Outgoing, b.Outgoing, sameExport) &&
		slices.EqualFunc(a.Incoming, b.Incoming, sameImport) &&
		slices.EqualFunc(a.Tombs, b.Tombs, sameTomb)
}

func fatalIf(t *testing.T, bad bool, words string, what ...any) {
	t.Helper()
	if bad {
		t.Fatalf(words, what...)
	}
}

// brief is something told in few letters, if it is told at all.
type brief struct{ x any }

func (b brief) String() string {
	s := fmt.Sprint(b.x)
	if len(s) > 600 {
		return s[:400] + " .. of " + fmt.Sprint(len(s))
	}
	return s
}

// mustLoad is the table of records that can follow one another.
func mustLoad(t *testing.T, l ...api.Record) *table.Table {
	t.Helper()
	x, n, e := table.Load(l)
	fatalIf(t, x == nil || n != 0 || e != ok, "Load of %s: at %d, %d", brief{l}, n, e)
	return x
}

// mustApply asks Can ahead of Apply.
func mustApply(t *testing.T, x *table.Table, l ...api.Record) {
	t.Helper()
	for i, r := range l {
		can := x.Can(r)
		e := x.Apply(r)
		fatalIf(t, can != ok || e != ok, "record %d, %s: Can %d, Apply %d", i, brief{r}, can, e)
	}
}

// refuses wants a record refused by Can and by Apply, and that nothing has changed.
func refuses(t *testing.T, x *table.Table, r api.Record, want api.Errno) {
	t.Helper()
	was := x.State()
	can, e := x.Can(r), x.Apply(r)
	fatalIf(t, can != want || e != want, "%s: Can %d, Apply %d, not %d, at %s", brief{r}, can, e, want, brief{was})
	fatalIf(t, !same(x.State(), was), "%s: refused, but it changed %s to %s", brief{r}, brief{was}, brief{x.State()})
}

// stands wants a table as the model is.
func stands(t *testing.T, x *table.Table, m *model) {
	t.Helper()
	want := m.state()
	fatalIf(t, !same(x.State(), want), "behind %s: %s, not %s", brief{m.l}, brief{x.State()}, brief{want})
	l := x.Snapshot()
	fatalIf(t, !sameAll(l, shot(want)), "behind %s: Snapshot %s, not %s", brief{m.l}, brief{l}, brief{shot(want)})
	again := mustLoad(t, l...)
	fatalIf(t, !same(again.State(), want), "behind %s: the Snapshot comes to %s", brief{m.l}, brief{again.State()})
}

// at is a session.
func at(origin, number int) api.Session { return api.Session{Origin: origin, Number: number} }

// spans are spans by their ends.
func spans(ends ...int) (l []api.Span) {
	for i := 0; i+1 < len(ends); i += 2 {
		l = append(l, api.Span{From: ends[i], To: ends[i+1]})
	}
	return l
}

// comb is so many spans of one number each, with a gap of one between.
func comb(from, count int) (l []api.Span) {
	for i := range count {
		l = append(l, api.Span{From: from + 2*i, To: from + 2*i + 1})
	}
	return l
}

// some are so many bytes, of all kinds.
func some(n int) []byte {
	b := make([]byte, n)
	for i := range b {
		b[i] = byte(i*7 + i>>8 + 1)
	}
	return b
}

func boot(id, size int) api.Record {
	return api.Record{Kind: api.RecBoot, Session: api.Session{Origin: id}, Size: size}
}

func skip(n int) api.Record { return api.Record{Kind: api.RecNext, Size: n} }

func open(s api.Session, peer int) api.Record {
	return api.Record{Kind: api.RecOpen, Session: s, Peer: peer, Service: 7, Red: 2, Size: 3, Data: []byte{byte(s.Number), 9}}
}

func end(s api.Session, how int) api.Record {
	return api.Record{Kind: api.RecEnd, Session: s, How: how}
}

func told(s api.Session) api.Record { return api.Record{Kind: api.RecTold, Session: s} }

func red(s api.Session, offset, red, size int, data string) api.Record {
	return api.Record{Kind: api.RecRed, Session: s, Service: 7, Offset: offset, Red: red, Size: size, Data: []byte(data)}
}

func done(s api.Session) api.Record { return api.Record{Kind: api.RecDone, Session: s} }

func gone(s api.Session, how int) api.Record {
	return api.Record{Kind: api.RecGone, Session: s, How: how}
}

func heard(s api.Session) api.Record { return api.Record{Kind: api.RecHeard, Session: s} }

func shut(s api.Session) api.Record { return api.Record{Kind: api.RecShut, Session: s} }

func tomb(origin int, ends ...int) api.Record {
	return api.Record{Kind: api.RecTomb, Size: origin, Spans: spans(ends...)}
}

func past(s api.Session, red, size int) api.Record {
	return api.Record{Kind: api.RecPast, Session: s, Service: 7, Red: red, Size: size}
}

// other is a record of another service.
func other(r api.Record) api.Record {
	r.Service++
	return r
}
