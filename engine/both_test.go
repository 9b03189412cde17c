package engine_test

import (
	"bytes"
	"fmt"
	"math"
	"slices"
	"testing"

	"lantern/api"
	"lantern/disk"
	"lantern/engine"
	"lantern/record"
	"lantern/segment"
	"lantern/table"
)

const (
	top    = 1<<62 - 1 // MaxNum
	most   = 65536     // MaxBlock
	wide   = 1 << 24   // room enough
	maxInt = math.MaxInt
	minInt = math.MinInt
	ok     = api.OK
	epoch  = 1 << 24
)

// fatalIf marks itself as a helper in need alone: that takes time, and it is called often.
func fatalIf(t *testing.T, wrong bool, words string, what ...any) {
	if wrong {
		t.Helper()
		t.Fatalf(words, what...)
	}
}

func span(from, to int) api.Span { return api.Span{From: from, To: to} }

func spans(ends ...int) (l []api.Span) {
	for i := 0; i < len(ends); i += 2 {
		l = append(l, span(ends[i], ends[i+1]))
	}
	return l
}

func session(origin, number int) api.Session { return api.Session{Origin: origin, Number: number} }

// row is n bytes, of which none is like its neighbours.
func row(n int) []byte {
	b := make([]byte, n)
	for i := range b {
		b[i] = byte(i*7 + i/256 + 1)
	}
	return b
}

var wholeRow = row(most)

// usual is the configuration of the chapter's examples.
func usual() api.Config {
	return api.Config{
		Id:       1,
		Peers:    []api.Peer{{Id: 2, Mtu: 200, Timeout: 10}},
		Services: []int{7},
		Contacts: []api.Contact{{Peer: 2, To: api.MaxTick, Rate: 5}},
		Rules:    api.Rules{Retry: 3, Cycles: 5},
		Sessions: 8,
		Hold:     10000,
		Idle:     100,
		Queue:    100,
		Compact:  100000,
	}
}

// tight is one in which every limit is met soon: two peers, of which one is not always open.
func tight() api.Config {
	return api.Config{
		Id:       1,
		Peers:    []api.Peer{{Id: 3, Mtu: 90, Timeout: 2}, {Id: 2, Mtu: 80, Timeout: 3}},
		Services: []int{7, 8},
		Contacts: []api.Contact{{Peer: 2, To: api.MaxTick, Rate: 2}, {Peer: 3, From: 2, To: 5, Rate: 1}, {Peer: 3, From: 7, To: api.MaxTick, Rate: 3}},
		Rules:    api.Rules{Retry: 1, Cycles: 1},
		Sessions: 2,
		Hold:     60,
		Idle:     7,
		Queue:    5,
		Compact:  300,
	}
}

// with is a configuration of which something is otherwise.
func with(c api.Config, change func(*api.Config)) api.Config {
	c.Peers, c.Services, c.Contacts = slices.Clone(c.Peers), slices.Clone(c.Services), slices.Clone(c.Contacts)
	change(&c)
	return c
}

func sameNotice(a, b api.Notice) bool {
	return a.Kind == b.Kind && a.Session == b.Session && a.Service == b.Service && a.Offset == b.Offset && a.Last == b.Last && bytes.Equal(a.Data, b.Data) && a.How == b.How && a.Replayed == b.Replayed
}

func sameSend(a, b api.Send) bool { return a.Peer == b.Peer && bytes.Equal(a.Bytes, b.Bytes) }

func sameOut(a, b api.Out) bool {
	return slices.EqualFunc(a.Notices, b.Notices, sameNotice) && slices.EqualFunc(a.Sends, b.Sends, sameSend)
}

func sameState(a, b api.State) bool {
	out := func(a, b api.Outgoing) bool {
		return a.Session == b.Session && a.Peer == b.Peer && a.Service == b.Service && a.Red == b.Red && a.Size == b.Size && bytes.Equal(a.Data, b.Data) && a.Ended == b.Ended && a.How == b.How
	}
	in := func(a, b api.Incoming) bool {
		return a.Session == b.Session && a.Service == b.Service && a.Red == b.Red && a.Size == b.Size && slices.Equal(a.Have, b.Have) && bytes.Equal(a.Data, b.Data) &&
			a.Delivered == b.Delivered && a.Gone == b.Gone && a.Heard == b.Heard && a.Shut == b.Shut && a.How == b.How
	}
	tomb := func(a, b api.Tomb) bool { return a.Origin == b.Origin && slices.Equal(a.Spans, b.Spans) }
	return a.Id == b.Id && a.Boots == b.Boots && a.Next == b.Next && slices.EqualFunc(a.Outgoing, b.Outgoing, out) && slices.EqualFunc(a.Incoming, b.Incoming, in) && slices.EqualFunc(a.Tombs, b.Tombs, tomb)
}

func sameFile(a, b disk.File) bool {
	return a.Name == b.Name && a.Safe == b.Safe && bytes.Equal(a.Bytes, b.Bytes)
}

// journalOf is what stands in a disk's journal, and what its records come to; nil, if they don't follow.
func journalOf(h *disk.Hand) (l []api.Record, size int, t *table.Table) {
	for _, f := range h.Files() {
		if f.Name == "journal" {
			l, size = record.Scan(f.Bytes)
			if size != len(f.Bytes) {
				return l, size, nil
			}
		}
	}
	t, _, _ = table.Load(l)
	return l, size, t
}

// both are an engine and the model that it is held against, each on a disk of its own.
type both struct {
	e      *engine.Engine
	m      *model
	h, own *disk.Hand // the engine's, and the model's
	c      api.Config
	last   string // what was called last
	told   ledger

	seen      []byte // the journal as it was looked at last
	seenState api.State
}

// ledger is what was told of each session, from the first boot on.
type ledger map[api.Session]*page

// page is what was told of one: how often, by the kinds of notices, and how often of these not Replayed.
type page struct {
	all, first [8]int
	red        []byte
}

// adds wants what T1 and T2 say of one engine: what is told but once, and what is never told both.
func (l ledger) adds(t *testing.T, notes []api.Notice) {
	for _, n := range notes {
		p := l[n.Session]
		if p == nil {
			p = &page{}
			l[n.Session] = p
		}
		p.all[n.Kind]++
		if !n.Replayed {
			p.first[n.Kind]++
		}
		if n.Kind == api.NoteRed && p.all[n.Kind] == 1 {
			p.red = bytes.Clone(n.Data)
		}
		once := n.Kind == api.NoteRed || n.Kind == api.NoteGone || n.Kind == api.NoteDone || n.Kind == api.NoteOff || n.Kind == api.NoteSent
		fatalIf(t, once && p.first[n.Kind] > 1, "told twice: %+v", n)
		fatalIf(t, p.all[api.NoteRed] > 0 && p.all[api.NoteGone] > 0, "%v is both delivered and gone", n.Session)
		fatalIf(t, p.all[api.NoteDone] > 0 && p.all[api.NoteOff] > 0, "%v is both done and off", n.Session)
		fatalIf(t, n.Kind == api.NoteRed && !bytes.Equal(n.Data, p.red), "%v has two red parts", n.Session)
	}
}

// on are disks with room for so many bytes, on which nothing runs yet.
func on(room int, c api.Config) *both {
	return &both{h: disk.New(room), own: disk.New(room), c: c, told: ledger{}}
}

// hands does something with both hands.
func (b *both) hands(do func(*disk.Hand)) {
	do(b.h)
	do(b.own)
}

// puts puts records into the journal, while nothing runs.
func (b *both) puts(t *testing.T, l ...api.Record) *both {
	t.Helper()
	frames, e := record.Frame(l)
	fatalIf(t, e != ok, "Frame: %v", e)
	b.hands(func(h *disk.Hand) {
		h.Disk().Append("journal", frames)
		h.Disk().Sync("journal")
	})
	return b
}

// tryBoot boots both, and wants the same of both; it tells the number of the error.
func (b *both) tryBoot(t *testing.T, now int) (api.Out, api.Errno) {
	b.last = "Boot"
	e, out, err := engine.Boot(b.h.Disk(), b.c, now)
	m, want, no := bootModel(b.own.Disk(), b.c, now)
	b.e, b.m = e, m
	if disk.Number(err) != no || (e == nil) != (no != ok) || !sameOut(out, want) {
		t.Helper()
		t.Fatalf("Boot: %+v %v, not %+v %v", out, err, want, no)
	}
	b.told.adds(t, out.Notices)
	b.mustLook(t)
	return out, no
}

// boot boots both.
func (b *both) boot(t *testing.T, now int) api.Out {
	out, no := b.tryBoot(t, now)
	if no != ok {
		t.Helper()
		t.Fatalf("Boot: %v", no)
	}
	return out
}

// begin boots on an empty disk.
func begin(t *testing.T, c api.Config) *both {
	t.Helper()
	b := on(wide, c)
	out := b.boot(t, 0)
	fatalIf(t, len(out.Notices)+len(out.Sends) != 0, "on an empty disk: %v", out)
	return b
}

// looks tells what is not as the model has it, of all that can be seen.
func (b *both) looks() string {
	if !slices.EqualFunc(b.h.Files(), b.own.Files(), sameFile) {
		return fmt.Sprintf("the files are %v, not %v", b.h.Files(), b.own.Files())
	}
	if b.e == nil {
		return ""
	}
	want := b.m.state()
	for range 2 { // looking changes nothing
		if got, want := b.e.Sight(), b.m.sight(); got != want {
			return fmt.Sprintf("Sight: %+v, not %+v", got, want)
		}
		if got := b.e.State(); !sameState(got, want) {
			return fmt.Sprintf("State: %+v, not %+v", got, want)
		}
	}
	if b.m.dead {
		return ""
	}
	if wrong := b.scans(want); wrong != "" {
		return wrong
	}
	return b.bounds()
}

// scans tells what is not as P14.8 says: the state is what the journal's file comes to, as it stands.
func (b *both) scans(want api.State) string {
	var raw []byte
	for _, f := range b.h.Files() { // a disk that is down can't be read
		if f.Name == "journal" {
			raw = f.Bytes
		}
	}
	if b.seen == nil || !bytes.Equal(raw, b.seen) { // to read the same again tells nothing new
		_, size, in := journalOf(b.h)
		if in == nil || size != len(raw) {
			return "the journal does not scan, or its records don't follow"
		}
		b.seen, b.seenState = raw, in.State()
	}
	if !sameState(b.seenState, want) || b.e.Sight().Journal != len(raw) {
		return fmt.Sprintf("the journal of %d bytes comes to %+v, not to %+v", len(raw), b.seenState, want)
	}
	return ""
}

// bounds tells what is not as P14.7 says.
func (b *both) bounds() string {
	open := 0
	for _, o := range b.m.outs {
		if o.red == 0 || o.through {
			continue
		}
		open++
		if o.Pending() == 0 {
			return fmt.Sprintf("no checkpoint of %v is open", o.s)
		}
	}
	if s := b.e.Sight(); s.Timers < s.Imports || s.Timers+s.Waiting < s.Imports+open {
		return fmt.Sprintf("%d exports are not through, and nothing is awaited of one of them, or of an import: %+v", open, s)
	}
	for _, i := range b.m.ins {
		if !slices.ContainsFunc(b.m.clocks, func(c clock) bool { return c.key == idle(i.s) }) {
			return fmt.Sprintf("%v has no idle timer", i.s)
		}
		n := i.Waits()
		for _, c := range b.m.clocks {
			if c.key.Session == i.s && c.key.Kind == api.TimeReport {
				n--
			}
		}
		for _, p := range b.m.parked {
			if p.x.Session == i.s && p.x.Type == api.ReportType {
				n--
			}
		}
		if n > 0 {
			return fmt.Sprintf("%d reports of %v are awaited by nobody", n, i.s)
		}
	}
	return ""
}

func (b *both) mustLook(t *testing.T) {
	if wrong := b.looks(); wrong != "" {
		t.Helper()
		t.Fatalf("behind %s: %s", b.last, wrong)
	}
}

// agrees wants that a call answered what the model says.
func (b *both) agrees(t *testing.T, got api.Out, err error, want api.Out, no api.Errno) {
	if disk.Number(err) != no || !sameOut(got, want) {
		t.Helper()
		t.Fatalf("%s: %+v %v, not %+v %v", b.last, got, err, want, no)
	}
	b.told.adds(t, got.Notices)
	b.mustLook(t)
}

func (b *both) submit(t *testing.T, peer, service int, block []byte, red int) (int, api.Errno) {
	t.Helper()
	b.last = fmt.Sprintf("Submit(%d, %d, %d bytes, %d)", peer, service, len(block), red)
	n, out, err := b.e.Submit(peer, service, block, red)
	want, wantOut, no := b.m.submit(peer, service, block, red)
	fatalIf(t, n != want, "%s: %d, not %d", b.last, n, want)
	b.agrees(t, out, err, wantOut, no)
	return n, no
}

func (b *both) cancel(t *testing.T, s api.Session) ([]api.Notice, api.Errno) {
	t.Helper()
	b.last = fmt.Sprintf("Cancel(%v)", s)
	out, err := b.e.Cancel(s)
	want, no := b.m.cancel(s)
	b.agrees(t, out, err, want, no)
	return out.Notices, no
}

func (b *both) receive(t *testing.T, from int, raw []byte) ([]api.Notice, api.Errno) {
	t.Helper()
	x, _ := segment.Parse(raw)
	b.last = fmt.Sprintf("Receive(%d, %+v)", from, x)
	out, err := b.e.Receive(from, raw)
	want, no := b.m.receive(from, raw)
	b.agrees(t, out, err, want, no)
	return out.Notices, no
}

// comes lets a segment come.
func (b *both) comes(t *testing.T, from int, x api.Segment) ([]api.Notice, api.Errno) {
	t.Helper()
	return b.receive(t, from, printed(t, x))
}

// gets lets a segment come, of which no error comes.
func (b *both) gets(t *testing.T, from int, x api.Segment) []api.Notice {
	t.Helper()
	l, no := b.comes(t, from, x)
	fatalIf(t, no != ok, "%s: %v", b.last, no)
	return l
}

func printed(t *testing.T, x api.Segment) []byte {
	raw, e := segment.Print(x)
	if e != ok {
		t.Helper()
		t.Fatalf("Print of %+v: %v", x, e)
	}
	return raw
}

func (b *both) tryTick(t *testing.T) (api.Out, api.Errno) {
	t.Helper()
	b.last = "Tick"
	out, err := b.e.Tick()
	want, no := b.m.tick()
	b.agrees(t, out, err, want, no)
	return out, no
}

// tick lets one go by, and tells what was told and what went out.
func (b *both) tick(t *testing.T) ([]api.Notice, []api.Segment) {
	t.Helper()
	out, no := b.tryTick(t)
	fatalIf(t, no != ok, "Tick: %v", no)
	return out.Notices, read(t, out)
}

// ticks lets so many go by; what is told and what goes out in all of them.
func (b *both) ticks(t *testing.T, n int) (notes []api.Notice, l []api.Segment) {
	t.Helper()
	for range n {
		more, out := b.tick(t)
		notes, l = append(notes, more...), append(l, out...)
	}
	return notes, l
}

// read are the segments of what went out.
func read(t *testing.T, out api.Out) (l []api.Segment) {
	for _, s := range out.Sends {
		x, e := segment.Parse(s.Bytes)
		fatalIf(t, e != ok, "what goes out is no segment: %v", e)
		l = append(l, x)
	}
	return l
}

// crash loses the power; so many bytes that were not safe stay.
func (b *both) crash(keep int) {
	b.hands(func(h *disk.Hand) { h.Crash(keep) })
	b.e, b.m = nil, nil
}

// again boots behind a loss of power.
func (b *both) again(t *testing.T, keep, now int) api.Out {
	t.Helper()
	b.crash(keep)
	return b.boot(t, now)
}

// leaves leaves room for just so many bytes, by a file of somebody else's.
func (b *both) leaves(room int) {
	b.hands(func(h *disk.Hand) {
		d := h.Disk()
		d.Append("other", make([]byte, max(d.Room()-room, 0)))
	})
}

// frees gives that room back.
func (b *both) frees() { b.hands(func(h *disk.Hand) { h.Disk().Remove("other") }) }

// loose is how many bytes of the journal a loss of power can take.
func (b *both) loose() int {
	for _, f := range b.h.Files() {
		if f.Name == "journal" {
			return len(f.Bytes) - f.Safe
		}
	}
	return 0
}

// records are those that stand in the journal.
func (b *both) records() []api.Record {
	l, _, _ := journalOf(b.h)
	return l
}

// The segments that tests are made of.
func red(kind int, s api.Session, from, to int, numbers ...int) api.Segment {
	x := api.Segment{Type: kind, Session: s, Service: 7, Offset: from, Data: wholeRow[from:to]}
	if len(numbers) > 0 {
		x.Check = numbers[0]
	}
	if len(numbers) > 1 {
		x.Report = numbers[1]
	}
	return x
}

func green(kind int, s api.Session, from, to int) api.Segment { return red(kind, s, from, to) }

func serves(x api.Segment, service int) api.Segment { x.Service = service; return x }

func tells(s api.Session, serial, check, lower, upper int, ends ...int) api.Segment {
	return api.Segment{Type: api.ReportType, Session: s, Report: serial, Check: check, Lower: lower, Upper: upper, Claims: spans(ends...)}
}

func acks(s api.Session, serial int) api.Segment {
	return api.Segment{Type: api.AckType, Session: s, Report: serial}
}

func calls(kind int, s api.Session, reason int) api.Segment {
	return api.Segment{Type: kind, Session: s, Reason: reason}
}

// The notices that tests are made of.
func note(kind int, s api.Session, how int) api.Notice {
	return api.Notice{Kind: kind, Session: s, How: how}
}

func noteIn(kind int, s api.Session, service int, data []byte) api.Notice {
	return api.Notice{Kind: kind, Session: s, Service: service, Data: data}
}

func noteGone(s api.Session, service, how int) api.Notice {
	return api.Notice{Kind: api.NoteGone, Session: s, Service: service, How: how}
}

func noteGreen(s api.Session, from, to int, last bool) api.Notice {
	return api.Notice{Kind: api.NoteGreen, Session: s, Service: 7, Offset: from, Data: wholeRow[from:to], Last: last}
}

func replayed(n api.Notice) api.Notice { n.Replayed = true; return n }

// told wants just these notices.
func told(t *testing.T, got []api.Notice, want ...api.Notice) {
	if !slices.EqualFunc(got, want, sameNotice) {
		t.Helper()
		t.Fatalf("told: %+v, not %+v", got, want)
	}
}

func sameSegment(a, b api.Segment) bool {
	numbers := func(s api.Segment) [11]int {
		return [11]int{s.Type, s.Session.Origin, s.Session.Number, s.Service, s.Offset, s.Check, s.Report, s.Upper, s.Lower, s.Reason, len(s.Head) + len(s.Tail)}
	}
	return numbers(a) == numbers(b) && bytes.Equal(a.Data, b.Data) && slices.Equal(a.Claims, b.Claims)
}

// sent wants just these segments.
func sent(t *testing.T, got []api.Segment, want ...api.Segment) {
	if !slices.EqualFunc(got, want, sameSegment) {
		t.Helper()
		t.Fatalf("sent: %+v, not %+v", got, want)
	}
}

// adds wants that the journal has just these records behind so many.
func (b *both) adds(t *testing.T, before int, want ...api.Record) {
	got := b.records()[before:]
	same := func(a, b api.Record) bool {
		return a.Kind == b.Kind && a.Session == b.Session && a.Peer == b.Peer && a.Service == b.Service && a.Offset == b.Offset && a.Red == b.Red && a.Size == b.Size && a.How == b.How && bytes.Equal(a.Data, b.Data) && slices.Equal(a.Spans, b.Spans)
	}
	if !slices.EqualFunc(got, want, same) {
		t.Helper()
		t.Fatalf("behind %s the journal has %+v, not %+v", b.last, got, want)
	}
}

// counters are those of a Sight, by their names.
func counters(s api.Sight) map[string]int {
	return map[string]int{"Bad": s.Bad, "Stray": s.Stray, "Late": s.Late, "Refused": s.Refused, "Clash": s.Clash, "Lost": s.Lost, "Full": s.Full}
}

// counted wants that by what is done these counters alone grow, by so much each.
func (b *both) counted(t *testing.T, do func(), grows map[string]int) {
	t.Helper()
	before := counters(b.e.Sight())
	do()
	for name, n := range counters(b.e.Sight()) {
		fatalIf(t, n != before[name]+grows[name], "behind %s %s grew from %d to %d", b.last, name, before[name], n)
	}
}

// untouched wants that nothing changes by what is done but these counters, each by so much: neither what is seen nor the disk, nor what comes in the ticks that follow.
func (b *both) untouched(t *testing.T, do func(), grows map[string]int) {
	t.Helper()
	before, files := b.e.Sight(), b.h.Files()
	b.counted(t, do, grows)
	after := b.e.Sight()
	for _, s := range []*api.Sight{&before, &after} {
		s.Bad, s.Stray, s.Late, s.Refused, s.Clash, s.Lost, s.Full = 0, 0, 0, 0, 0, 0, 0
	}
	fatalIf(t, before != after, "behind %s: %+v, not %+v", b.last, after, before)
	fatalIf(t, !slices.EqualFunc(files, b.h.Files(), sameFile), "%s changed the disk", b.last)
}

func one(name string) map[string]int { return map[string]int{name: 1} }

type file = disk.File
