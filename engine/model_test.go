package engine_test

import (
	"cmp"
	"errors"
	"slices"

	"lantern/api"
	"lantern/blocks"
	"lantern/disk"
	"lantern/export"
	"lantern/imports"
	"lantern/record"
	"lantern/report"
	"lantern/segment"
	"lantern/table"
)

// What the chapter says, once more and in another way than the package: all that waits for anybody stands in one list, so do all timers, and who asks goes through them; whether a peer is held is worked out whenever it is asked; the acts of the journal are done on a disk of the model's own; a loss of power is a panic that ends the call, wherever it is.

// parked is a segment that waits for a peer.
type parked struct {
	peer int
	x    api.Segment
}

// clock is a timer.
type clock struct {
	key  api.Key
	left int
}

// parcelOut is an export of the model.
type parcelOut struct {
	*export.Export
	s       api.Session
	peer    int
	red     int
	through bool
}

// parcelIn is an import of the model.
type parcelIn struct {
	*imports.Import
	s         api.Session
	service   int
	delivered bool
}

// called is a cancel under way.
type called struct {
	s                         api.Session
	kind, peer, reason, again int
}

type model struct {
	c           api.Config
	d           *disk.Disk
	size, loose int // of the journal
	t           *table.Table
	now         int
	n           api.Sight // the counters alone
	outs        []*parcelOut
	ins         []*parcelIn
	parked      []parked
	clocks      []clock
	called      []*called
	owed        []api.Record

	notes []api.Notice // of the call that is done
	sends []api.Send
	wrote []int // the bytes of its Writes, of those too that found no room

	kinds [13]int // how often a record of each kind was written; 0: how often the journal was written anew

	dead      bool
	lastSight api.Sight
	lastState api.State
}

// noPower is what a model gives up with.
var noPower = errors.New("no power")

// heard gives up, if the disk says that there is no power.
func (m *model) heard(err error) {
	switch {
	case errors.Is(err, disk.ErrDown):
		panic(noPower)
	case err != nil:
		panic(err)
	}
}

// face does a call, up to the end or to a loss of power.
func (m *model) face(do func() api.Errno) (out api.Out, e api.Errno) {
	if m.dead {
		return api.Out{}, api.ErrEngineDead
	}
	m.lastSight, m.lastState = m.sight(), m.t.State()
	m.notes, m.sends, m.wrote = nil, nil, nil
	defer func() {
		switch r := recover(); {
		case r == nil:
		case r == any(noPower):
			m.dead = true
			out, e = api.Out{}, api.ErrDown
		default:
			panic(r)
		}
	}()
	if e := do(); e != ok {
		return api.Out{}, e
	}
	return api.Out{Notices: m.notes, Sends: m.sends}, ok
}

// write tells whether there was room.
func (m *model) write(safe bool, l ...api.Record) bool {
	if len(l) > 0 {
		b, e := record.Frame(l)
		if e != ok {
			panic("the model wrote a record that may not be")
		}
		m.wrote = append(m.wrote, len(b))
		err := m.d.Append("journal", b)
		if errors.Is(err, disk.ErrFull) {
			return false
		}
		m.heard(err)
		m.size += len(b)
		m.loose += len(b)
	}
	if safe && m.loose > 0 {
		m.heard(m.d.Sync("journal"))
		m.loose = 0
	}
	m.applies(l)
	return true
}

func (m *model) applies(l []api.Record) {
	for _, r := range l {
		m.kinds[r.Kind]++
		if e := m.t.Apply(r); e != ok {
			panic("the model wrote a record that can not follow")
		}
	}
}

// rewrite tells whether there was room.
func (m *model) rewrite(l []api.Record) bool {
	b, _ := record.Frame(l)
	err := m.d.Append("journal.new", b)
	if errors.Is(err, disk.ErrFull) {
		return false
	}
	m.heard(err)
	m.heard(m.d.Sync("journal.new"))
	m.heard(m.d.Rename("journal.new", "journal"))
	m.size, m.loose = len(b), 0
	m.kinds[0]++
	return true
}

// mayBe tells whether a configuration may be.
func mayBe(c api.Config) bool {
	bounds := [][3]int{
		{c.Id, 1, top}, {len(c.Peers), 1, 8}, {len(c.Services), 0, 16}, {len(c.Contacts), 0, 100}, {c.Rules.Retry, 1, 100}, {c.Rules.Cycles, 1, 1000},
		{c.Sessions, 1, 64}, {c.Hold, 1, 1 << 22}, {c.Idle, 1, 1 << 20}, {c.Every, 0, 65536}, {c.Queue, 1, 1 << 16}, {c.Compact, 1, top},
	}
	seen := map[int]int{c.Id: 1}
	for _, p := range c.Peers {
		seen[p.Id]++
		bounds = append(bounds, [3]int{seen[p.Id], 1, 1}, [3]int{p.Id, 1, top}, [3]int{p.Mtu, 80, 4096}, [3]int{p.Timeout, 1, 1 << 20})
	}
	for i, n := range c.Services {
		bounds = append(bounds, [3]int{n, 0, top}, [3]int{slices.Index(c.Services, n), i, i})
	}
	for _, x := range c.Contacts {
		bounds = append(bounds, [3]int{seen[x.Peer], 1, 1}, [3]int{x.From, 0, x.To - 1}, [3]int{x.To, 1, 1 << 40}, [3]int{x.Rate, 1, 1000})
		bounds = append(bounds, [3]int{ratesOf(c, x.Peer, x.From), 0, 1000})
		if x.Peer == c.Id {
			return false
		}
	}
	for _, b := range bounds {
		if b[0] < b[1] || b[0] > b[2] {
			return false
		}
	}
	return true
}

// ratesOf is the rate of a peer at a tick.
func ratesOf(c api.Config, peer, tick int) (sum int) {
	for _, x := range c.Contacts {
		if x.Peer == peer && x.From <= tick && tick < x.To && sum <= 1000 {
			sum += x.Rate
		}
	}
	return sum
}

// peerOf is the peer of a number.
func (m *model) peerOf(id int) (api.Peer, bool) {
	for _, p := range m.c.Peers {
		if p.Id == id {
			return p, true
		}
	}
	return api.Peer{}, false
}

func (m *model) state() api.State {
	if m.dead {
		return m.lastState
	}
	return m.t.State()
}

func (m *model) sight() api.Sight {
	if m.dead {
		return m.lastSight
	}
	s := m.t.State()
	x := m.n
	x.Now, x.Boots, x.Next = m.now, s.Boots, s.Next
	x.Exports, x.Imports, x.Waiting, x.Timers, x.Held, x.Journal = len(m.outs), len(m.ins), len(m.parked), len(m.clocks), m.held(), m.size
	return x
}

func (m *model) held() (n int) {
	for _, i := range m.ins {
		n += i.Held()
	}
	return n
}

// bootModel boots one; nil, if that can't be.
func bootModel(d *disk.Disk, c api.Config, now int) (m *model, out api.Out, e api.Errno) {
	switch {
	case now < 0 || now > 1<<40:
		return nil, api.Out{}, api.ErrArg
	case !mayBe(c):
		return nil, api.Out{}, api.ErrEngineConfig
	}
	c.Peers, c.Services, c.Contacts = slices.Clone(c.Peers), slices.Clone(c.Services), slices.Clone(c.Contacts)
	m = &model{c: c, d: d, t: table.New(), now: now}
	out, e = m.face(m.boot)
	if e != ok {
		return nil, api.Out{}, e
	}
	return m, out, ok
}

// opens reads the journal.
func (m *model) opens() []api.Record {
	if err := m.d.Remove("journal.new"); !errors.Is(err, disk.ErrNone) {
		m.heard(err)
	}
	b, err := m.d.Read("journal")
	if !errors.Is(err, disk.ErrNone) {
		m.heard(err)
	}
	l, n := record.Scan(b)
	m.size, m.loose = n, n
	if n < len(b) {
		m.heard(m.d.Cut("journal", n))
		m.loose = 0
	}
	return l
}

func (m *model) boot() api.Errno {
	l := m.opens()
	t, _, e := table.Load(l)
	if e != ok {
		return e
	}
	m.t = t
	s := t.State()
	if len(l) > 0 && s.Id != m.c.Id {
		return api.ErrEngineConfig
	}
	if s.Boots == 1<<30 {
		return api.ErrEngineBoots
	}
	all := m.atBoot(s)
	m.applies(all)
	if !m.writeOnly(all) && !m.rewrite(t.Snapshot()) {
		return api.ErrFull
	}
	m.goOn(t.State())
	return ok
}

// writeOnly writes, safe, what the table has already.
func (m *model) writeOnly(l []api.Record) bool {
	b, _ := record.Frame(l)
	m.wrote = append(m.wrote, len(b))
	err := m.d.Append("journal", b)
	if errors.Is(err, disk.ErrFull) {
		return false
	}
	m.heard(err)
	m.heard(m.d.Sync("journal"))
	m.size, m.loose = m.size+len(b), 0
	return true
}

// atBoot are the records of a boot.
func (m *model) atBoot(s api.State) []api.Record {
	all := []api.Record{{Kind: api.RecBoot, Session: api.Session{Origin: m.c.Id}, Size: s.Boots + 1}}
	for _, i := range s.Incoming {
		if i.Gone || i.Shut {
			continue
		}
		delivered := i.Delivered
		if !delivered && i.Red > 0 && slices.Equal(i.Have, []api.Span{{From: 0, To: i.Red}}) {
			all = append(all, rec(api.RecDone, i.Session, 0))
			delivered = true
		}
		if _, there := m.peerOf(i.Session.Origin); there {
			continue
		}
		if delivered {
			all = append(all, rec(api.RecShut, i.Session, 0))
		} else {
			all = append(all, rec(api.RecGone, i.Session, api.BySystem))
		}
	}
	for _, o := range s.Outgoing {
		if _, there := m.peerOf(o.Peer); !there && !o.Ended {
			all = append(all, rec(api.RecEnd, o.Session, 1+api.BySystem))
		}
	}
	return all
}

func rec(kind int, s api.Session, how int) api.Record {
	return api.Record{Kind: kind, Session: s, How: how}
}

// goOn does all that comes behind the Write of a boot.
func (m *model) goOn(s api.State) {
	for _, o := range s.Outgoing {
		if o.Ended {
			continue
		}
		p, _ := m.peerOf(o.Peer)
		parcel := api.Parcel{Service: o.Service, Size: o.Size, Red: o.Red, Mtu: p.Mtu, Every: m.c.Every}
		x, moves, e := export.Open(o.Session, parcel, o.Data, m.c.Rules, s.Boots<<24, true)
		if e != ok {
			panic("an export can not be opened again")
		}
		m.outs = append(m.outs, &parcelOut{Export: x, s: o.Session, peer: p.Id, red: o.Red})
		m.puts(p.Id, moves.Send...)
	}
	for _, i := range s.Incoming {
		if i.Gone || i.Shut {
			continue
		}
		p, _ := m.peerOf(i.Session.Origin)
		x, moves, e := imports.Back(i, p.Mtu, m.c.Rules, s.Boots<<24)
		if e != ok {
			panic("an import can not go on")
		}
		m.ins = append(m.ins, &parcelIn{Import: x, s: i.Session, service: i.Service, delivered: i.Delivered})
		m.puts(p.Id, moves.Send...)
		m.starts(idle(i.Session), m.c.Idle)
	}
	for _, o := range s.Outgoing {
		switch {
		case o.Ended && o.How == 0:
			m.tell(api.Notice{Kind: api.NoteDone, Session: o.Session, Replayed: true}, api.RecTold)
		case o.Ended:
			m.tell(api.Notice{Kind: api.NoteOff, Session: o.Session, How: o.How - 1, Replayed: true}, api.RecTold)
		}
	}
	for _, i := range s.Incoming {
		switch {
		case i.Heard:
		case i.Delivered:
			m.tell(api.Notice{Kind: api.NoteRed, Session: i.Session, Service: i.Service, Data: i.Data, Replayed: true}, api.RecHeard)
		case i.Gone:
			m.tell(api.Notice{Kind: api.NoteGone, Session: i.Session, How: i.How, Replayed: true}, api.RecHeard)
		}
	}
}

// tell tells a notice, and owes a record (0: none).
func (m *model) tell(n api.Notice, owes int) {
	m.notes = append(m.notes, n)
	if owes != 0 {
		m.owed = append(m.owed, rec(owes, n.Session, 0))
	}
}

// The kinds in which segments go out.
func turnOf(x api.Segment) int {
	switch x.Type {
	case 9, 13, 15:
		return 0
	case 8, 12, 14:
		return 1
	}
	return 2
}

func (m *model) puts(peer int, l ...api.Segment) {
	for _, x := range l {
		m.parked = append(m.parked, parked{peer, x})
	}
}

// answers puts an answer, if there is room in the line.
func (m *model) answers(peer int, x api.Segment) {
	n := 0
	for _, p := range m.parked {
		if p.peer == peer && turnOf(p.x) == 0 {
			n++
		}
	}
	if n >= m.c.Queue {
		m.n.Lost++
		return
	}
	m.puts(peer, x)
}

func (m *model) counts(peer int) (n int) {
	for _, p := range m.parked {
		if p.peer == peer {
			n++
		}
	}
	return n
}

func (m *model) drops(s api.Session, all bool) {
	m.parked = slices.DeleteFunc(m.parked, func(p parked) bool {
		return p.x.Session == s && turnOf(p.x) > 0 && (all || p.x.Type <= 3)
	})
}

// takes are those that go out next.
func (m *model) takes(peer, most int) (l []api.Segment) {
	for turn := range 3 {
		m.parked = slices.DeleteFunc(m.parked, func(p parked) bool {
			if p.peer != peer || turnOf(p.x) != turn || len(l) >= most {
				return false
			}
			l = append(l, p.x)
			return true
		})
	}
	return l
}

func idle(s api.Session) api.Key { return api.Key{Peer: s.Origin, Session: s, Kind: api.TimeIdle} }

func (m *model) stops(k api.Key) {
	m.clocks = slices.DeleteFunc(m.clocks, func(c clock) bool { return c.key == k })
}

func (m *model) starts(k api.Key, ticks int) {
	m.stops(k)
	m.clocks = append(m.clocks, clock{k, ticks})
}

// ranOut lets a tick go by.
func (m *model) ranOut() (l []api.Key) {
	for i, c := range m.clocks {
		if ratesOf(m.c, c.key.Peer, m.now) > 0 {
			m.clocks[i].left--
		}
		if m.clocks[i].left == 0 {
			l = append(l, c.key)
		}
	}
	for _, k := range l {
		m.stops(k)
	}
	slices.SortFunc(l, func(a, b api.Key) int {
		return cmp.Or(cmp.Compare(a.Peer, b.Peer), cmp.Compare(a.Session.Origin, b.Session.Origin), cmp.Compare(a.Session.Number, b.Session.Number), cmp.Compare(a.Kind, b.Kind), cmp.Compare(a.Serial, b.Serial))
	})
	return l
}

func (m *model) out(s api.Session) *parcelOut {
	for _, o := range m.outs {
		if o.s == s {
			return o
		}
	}
	return nil
}

func (m *model) in(s api.Session) *parcelIn {
	for _, i := range m.ins {
		if i.s == s {
			return i
		}
	}
	return nil
}

func (m *model) cancelOf(s api.Session, kind int) *called {
	for _, c := range m.called {
		if c.s == s && c.kind == kind {
			return c
		}
	}
	return nil
}

func (m *model) uncall(which func(*called) bool) { m.called = slices.DeleteFunc(m.called, which) }

// closes closes an object.
func (m *model) closes(s api.Session) {
	m.outs = slices.DeleteFunc(m.outs, func(o *parcelOut) bool { return o.s == s })
	m.ins = slices.DeleteFunc(m.ins, func(i *parcelIn) bool { return i.s == s })
	m.clocks = slices.DeleteFunc(m.clocks, func(c clock) bool { return c.key.Session == s })
	m.drops(s, true)
	m.uncall(func(c *called) bool { return c.s == s })
}

func (m *model) begins(s api.Session, kind, peer, reason int) {
	if m.cancelOf(s, kind) == nil {
		m.puts(peer, api.Segment{Type: kind, Session: s, Reason: reason})
		m.called = append(m.called, &called{s: s, kind: kind, peer: peer, reason: reason})
	}
}

// offs cancels an export; told: by the other end. It tells whether there was room.
func (m *model) offs(o *parcelOut, why int, told bool) bool {
	if !m.write(true, rec(api.RecEnd, o.s, 1+why)) {
		return false
	}
	m.tell(api.Notice{Kind: api.NoteOff, Session: o.s, How: why}, api.RecTold)
	m.closes(o.s)
	if !told {
		m.begins(o.s, 12, o.peer, why)
	}
	return true
}

// gone cancels an import; told: by the other end.
func (m *model) gone(i *parcelIn, why int, told bool) bool {
	if !m.write(true, rec(api.RecGone, i.s, why)) {
		return false
	}
	m.tell(api.Notice{Kind: api.NoteGone, Session: i.s, Service: i.service, How: why}, api.RecHeard)
	m.closes(i.s)
	if !told {
		m.begins(i.s, 14, i.s.Origin, why)
	}
	return true
}

func (m *model) shuts(i *parcelIn) bool {
	if !m.write(false, rec(api.RecShut, i.s, 0)) {
		return false
	}
	m.closes(i.s)
	return true
}

// shutsLater shuts an import at the end of what came; if there is no room, that is let be.
func (m *model) shutsLater(i *parcelIn) {
	if !m.shuts(i) {
		m.n.Full++
	}
}

// full is the answer of a call that found no room.
func (m *model) full(room bool) api.Errno {
	if room {
		return ok
	}
	m.n.Full++
	return api.ErrFull
}

func (m *model) submit(peer, service int, block []byte, red int) (number int, out api.Out, e api.Errno) {
	out, e = m.face(func() api.Errno {
		n, e := m.submits(peer, service, block, red)
		number = n
		return e
	})
	if e != ok {
		number = 0
	}
	return number, out, e
}

func (m *model) submits(peer, service int, block []byte, red int) (int, api.Errno) {
	p, there := m.peerOf(peer)
	if !there {
		return 0, api.ErrEnginePeer
	}
	state := m.t.State()
	parcel := api.Parcel{Service: service, Size: len(block), Red: red, Mtu: p.Mtu, Every: m.c.Every}
	s := api.Session{Origin: m.c.Id, Number: state.Next}
	pieces, e := blocks.Cut(api.Session{Origin: m.c.Id, Number: min(state.Next, top-1)}, parcel, state.Boots<<24)
	switch {
	case e != ok:
		return 0, api.ErrEngineBlock
	case len(m.outs) >= m.c.Sessions || len(pieces)+m.counts(peer) > m.c.Queue:
		return 0, api.ErrEngineQueue
	case state.Next == top:
		return 0, api.ErrBig
	}
	r := api.Record{Kind: api.RecNext, Size: s.Number + 1}
	if red > 0 {
		r = api.Record{Kind: api.RecOpen, Session: s, Peer: peer, Service: service, Red: red, Size: len(block), Data: slices.Clone(block[:red])}
	}
	if !m.write(true, r) {
		return 0, m.full(false)
	}
	x, moves, _ := export.Open(s, parcel, block, m.c.Rules, state.Boots<<24, false)
	m.outs = append(m.outs, &parcelOut{Export: x, s: s, peer: peer, red: red})
	m.puts(peer, moves.Send...)
	return s.Number, ok
}

func (m *model) cancel(s api.Session) (api.Out, api.Errno) {
	return m.face(func() api.Errno {
		o, i := m.out(s), m.in(s)
		switch {
		case o != nil && o.red == 0:
			m.tell(api.Notice{Kind: api.NoteOff, Session: s}, 0)
			m.closes(s)
			m.begins(s, 12, o.peer, 0)
			return ok
		case o != nil && !o.through:
			return m.full(m.offs(o, 0, false))
		case i != nil && !i.delivered:
			return m.full(m.gone(i, 0, false))
		}
		return api.ErrEngineSession
	})
}

func (m *model) receive(from int, b []byte) (api.Out, api.Errno) {
	return m.face(func() api.Errno {
		if _, there := m.peerOf(from); !there {
			return api.ErrEnginePeer
		}
		x, e := segment.Parse(b)
		if e != ok {
			m.n.Bad++
			return e
		}
		if m.strays(from, x) {
			m.n.Stray++
			return api.ErrEngineStray
		}
		switch x.Type {
		case 0, 1, 2, 3:
			return m.red(from, x)
		case 4, 7:
			return m.green(from, x)
		case 8:
			return m.report(from, x)
		case 9:
			return m.ack(x)
		case 12:
			return m.told12(from, x)
		case 14:
			return m.told14(from, x)
		}
		return m.told13or15(x)
	})
}

func (m *model) strays(from int, x api.Segment) bool {
	switch x.Type {
	case 8, 13, 14:
		o := m.out(x.Session)
		return x.Session.Origin != m.c.Id || x.Session.Number >= m.t.State().Next || o != nil && o.peer != from
	}
	return x.Session.Origin != from
}

func (m *model) late() api.Errno {
	m.n.Late++
	return ok
}

func (m *model) refuses() api.Errno {
	m.n.Refused++
	return ok
}

func (m *model) isLate(x api.Segment) bool {
	i := m.in(x.Session)
	return m.t.Closed(x.Session) || i != nil && i.service != x.Service || m.cancelOf(x.Session, 14) != nil
}

func (m *model) red(from int, x api.Segment) api.Errno {
	if m.isLate(x) {
		return m.late()
	}
	i := m.in(x.Session)
	var v api.Verdict
	if i != nil {
		v, _ = i.Look(x)
		why := -1
		switch {
		case v.Wrong:
			why = 3
		case v.Big:
			why = 4
		case v.Cycle:
			why = 5
		case v.Fresh+m.held() > m.c.Hold:
			why = 4
		}
		switch {
		case why < 0:
		case i.delivered:
			return m.late()
		default:
			return m.full(m.gone(i, why, false))
		}
	} else {
		if !slices.Contains(m.c.Services, x.Service) {
			return m.unserved(from, x)
		}
		if len(m.ins) >= m.c.Sessions || len(x.Data)+m.held() > m.c.Hold {
			return m.refuses()
		}
		end := x.Offset + len(x.Data)
		v.Fresh = len(x.Data)
		if x.Type >= 2 {
			v.Red = end
			v.Whole = x.Offset == 0
		}
		if x.Type == 3 {
			v.Size = end
		}
	}
	return m.takesRed(from, x, i, v)
}

func (m *model) unserved(from int, x api.Segment) api.Errno {
	n := 0
	for _, c := range m.called {
		if c.kind == 14 {
			n++
		}
	}
	if n >= m.c.Sessions || m.counts(from) >= m.c.Queue {
		return m.refuses()
	}
	m.begins(x.Session, 14, from, 1)
	return ok
}

func (m *model) takesRed(from int, x api.Segment, i *parcelIn, v api.Verdict) api.Errno {
	var l []api.Record
	known := 0
	if i != nil {
		known = i.Red()
	}
	if v.Fresh > 0 || v.Red != known {
		l = append(l, api.Record{Kind: api.RecRed, Session: x.Session, Service: x.Service, Offset: x.Offset, Red: v.Red, Size: v.Size, Data: x.Data})
	}
	if v.Whole {
		l = append(l, rec(api.RecDone, x.Session, 0))
	}
	if !m.write(x.Type >= 1 || v.Whole, l...) {
		return m.full(false)
	}
	if i == nil {
		p, _ := m.peerOf(from)
		y, _ := imports.Open(x.Session, x.Service, p.Mtu, m.c.Rules, m.t.State().Boots<<24)
		i = &parcelIn{Import: y, s: x.Session, service: x.Service}
		m.ins = append(m.ins, i)
		m.tell(api.Notice{Kind: api.NoteStart, Session: x.Session, Service: x.Service}, 0)
	}
	moves, _ := i.Take(x)
	m.n.Clash += v.Clash
	if v.Whole {
		i.delivered = true
		m.tell(api.Notice{Kind: api.NoteRed, Session: x.Session, Service: x.Service, Data: i.Bytes()}, api.RecHeard)
	}
	m.starts(idle(x.Session), m.c.Idle)
	m.puts(from, moves.Send...)
	return ok
}

func (m *model) green(from int, x api.Segment) api.Errno {
	if m.isLate(x) {
		return m.late()
	}
	if !slices.Contains(m.c.Services, x.Service) {
		return m.refuses()
	}
	i := m.in(x.Session)
	if i != nil {
		v, _ := i.Look(x)
		switch {
		case v.Wrong && i.delivered:
			return m.late()
		case v.Wrong:
			return m.full(m.gone(i, 3, false))
		}
		i.Take(x)
		m.starts(idle(x.Session), m.c.Idle)
	}
	m.tell(api.Notice{Kind: api.NoteGreen, Session: x.Session, Service: x.Service, Offset: x.Offset, Data: x.Data, Last: x.Type == 7}, 0)
	if i != nil && i.delivered && i.Closed() {
		m.shutsLater(i)
	}
	return ok
}

func (m *model) report(from int, x api.Segment) api.Errno {
	ack := api.Segment{Type: 9, Session: x.Session, Report: x.Report}
	o := m.out(x.Session)
	if o == nil || o.red == 0 || o.through {
		m.answers(from, ack)
		return ok
	}
	r, _ := report.Of(x)
	moves := o.Report(r)
	switch {
	case moves.Done:
		if !m.write(true, rec(api.RecEnd, o.s, 0)) {
			return m.full(false)
		}
		m.answers(from, ack)
		o.through = true
		m.does(o.peer, o.s, api.TimeCheck, o.Finish())
		m.drops(o.s, false)
		m.tell(api.Notice{Kind: api.NoteDone, Session: o.s}, api.RecTold)
		if o.Out() {
			m.closes(o.s)
		}
	case moves.Over:
		if !m.offs(o, moves.Why, false) {
			return m.full(false)
		}
		m.answers(from, ack)
	default:
		m.answers(from, ack)
		m.does(o.peer, o.s, api.TimeCheck, moves)
	}
	return ok
}

// does does what moves stop, send and start.
func (m *model) does(peer int, s api.Session, kind int, moves api.Moves) {
	p, _ := m.peerOf(peer)
	for _, n := range moves.Stop {
		m.stops(api.Key{Peer: peer, Session: s, Kind: kind, Serial: n})
	}
	m.puts(peer, moves.Send...)
	for _, n := range moves.Start {
		m.starts(api.Key{Peer: peer, Session: s, Kind: kind, Serial: n}, p.Timeout)
	}
}

func (m *model) ack(x api.Segment) api.Errno {
	i := m.in(x.Session)
	if i == nil {
		return m.late()
	}
	m.does(x.Session.Origin, x.Session, api.TimeReport, i.Ack(x.Report))
	if i.delivered && i.Closed() {
		m.shutsLater(i)
	}
	return ok
}

func (m *model) told12(from int, x api.Segment) api.Errno {
	i := m.in(x.Session)
	if i != nil && !i.delivered && !m.gone(i, x.Reason, true) {
		return m.full(false)
	}
	m.answers(from, api.Segment{Type: 13, Session: x.Session})
	if i != nil && i.delivered {
		m.shutsLater(i)
	}
	return ok
}

func (m *model) told14(from int, x api.Segment) api.Errno {
	o := m.out(x.Session)
	switch {
	case o == nil:
	case o.red == 0 || o.through:
		m.closes(o.s)
	case !m.offs(o, x.Reason, true):
		return m.full(false)
	}
	m.answers(from, api.Segment{Type: 15, Session: x.Session})
	return ok
}

func (m *model) told13or15(x api.Segment) api.Errno {
	c := m.cancelOf(x.Session, x.Type-1)
	if c == nil {
		return m.late()
	}
	m.uncall(func(d *called) bool { return c == d })
	m.stops(api.Key{Peer: c.peer, Session: c.s, Kind: api.TimeCancel, Serial: c.kind})
	m.drops(x.Session, true)
	return ok
}

func (m *model) tick() (api.Out, api.Errno) {
	return m.face(func() api.Errno {
		if m.now == 1<<40 {
			return api.ErrBig
		}
		m.pays()
		m.now++
		for _, k := range m.ranOut() {
			if !m.runsOut(k) {
				m.n.Full++
				m.starts(k, 1)
			}
		}
		for _, p := range m.c.Peers {
			for _, x := range m.takes(p.Id, ratesOf(m.c, p.Id, m.now)) {
				m.goes(p, x)
			}
		}
		l := m.t.Snapshot()
		if b, _ := record.Frame(l); m.size >= m.c.Compact && 2*len(b) <= m.size {
			m.rewrite(l)
		}
		return ok
	})
}

func (m *model) pays() {
	if len(m.owed) == 0 {
		return
	}
	if !m.write(false, m.owed...) {
		m.n.Full++
		return
	}
	for _, r := range m.owed {
		if i := m.in(r.Session); i != nil && r.Kind == api.RecHeard {
			i.Drop()
		}
	}
	m.owed = nil
}

// runsOut does what is to be done, and tells whether there was room.
func (m *model) runsOut(k api.Key) bool {
	o, i, c := m.out(k.Session), m.in(k.Session), m.cancelOf(k.Session, k.Serial)
	over, why := false, 4
	switch {
	case k.Kind == api.TimeCheck && o != nil:
		moves := o.Late(k.Serial)
		if moves.Over {
			return m.offs(o, moves.Why, false)
		}
		m.puts(o.peer, moves.Send...)
	case k.Kind == api.TimeReport && i != nil:
		moves := i.Late(k.Serial)
		over, why = moves.Over, moves.Why
		m.puts(k.Peer, moves.Send...)
	case k.Kind == api.TimeCancel && c != nil:
		c.again++
		if c.again > m.c.Rules.Retry {
			m.uncall(func(d *called) bool { return c == d })
			break
		}
		m.puts(c.peer, api.Segment{Type: c.kind, Session: c.s, Reason: c.reason})
	case k.Kind == api.TimeIdle && i != nil:
		over = true
	}
	switch {
	case over && i.delivered:
		return m.shuts(i)
	case over:
		return m.gone(i, why, false)
	}
	return true
}

func (m *model) goes(p api.Peer, x api.Segment) {
	b, e := segment.Print(x)
	if e != ok {
		panic("the model sent what may not be")
	}
	m.sends = append(m.sends, api.Send{Peer: p.Id, Bytes: b})
	o, i := m.out(x.Session), m.in(x.Session)
	switch turn := turnOf(x); {
	case turn == 2 && o != nil:
		moves := o.Sent(x)
		m.does(p.Id, x.Session, api.TimeCheck, moves)
		if moves.Sent {
			m.tell(api.Notice{Kind: api.NoteSent, Session: x.Session}, 0)
		}
		if moves.Sent && (o.red == 0 || o.through) {
			m.closes(x.Session)
		}
	case x.Type == 8 && i != nil:
		m.does(p.Id, x.Session, api.TimeReport, i.Sent(x.Report))
	case turn == 1 && m.cancelOf(x.Session, x.Type) != nil:
		m.starts(api.Key{Peer: p.Id, Session: x.Session, Kind: api.TimeCancel, Serial: x.Type}, p.Timeout)
	}
}
