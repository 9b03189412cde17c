package imports_test

import (
	"bytes"
	"cmp"
	"fmt"
	"math"
	"slices"
	"testing"

	"lantern/api"
	"lantern/imports"
	"lantern/report"
	"lantern/segment"
)

// What the chapter says, once more and in another way than the package: of each byte it is known whether it came; where the red part and the block can end is known by the lowest and the greatest place; every report that ever was made stands in a list, with what became of it; who asks goes through them.

const (
	top    = 1<<62 - 1 // MaxNum
	most   = 65536     // MaxBlock
	maxInt = math.MaxInt
	minInt = math.MinInt
	ok     = api.OK
)

// fatalIf marks itself as a helper in need alone: that takes time, and it is called often.
func fatalIf(t *testing.T, wrong bool, words string, what ...any) {
	if wrong {
		t.Helper()
		t.Fatalf(words, what...)
	}
}

func span(from, to int) api.Span { return api.Span{From: from, To: to} }

func spans(ends ...int) (l []api.Span) {
	for i := 0; i < len(ends); i += 2 {
		l = append(l, span(ends[i], ends[i+1]))
	}
	return l
}

// ones are n spans of one byte each, from a place on, every other byte.
func ones(at, n int) (l []api.Span) {
	for i := range n {
		l = append(l, span(at+2*i, at+2*i+1))
	}
	return l
}

// block is one of n bytes, of which none is like its neighbours.
func block(n int) []byte {
	b := make([]byte, n)
	for i := range b {
		b[i] = byte(i*7 + i/256 + 1)
	}
	return b
}

var wholeBlock = block(most)

// opening is what Open is given.
type opening struct {
	s            api.Session
	service, mtu int
	r            api.Rules
	base         int
}

// usual is that of the chapter's examples.
func usual() opening {
	return opening{s: api.Session{Origin: 1, Number: 5}, service: 7, mtu: 80, r: api.Rules{Retry: 2, Cycles: 1}, base: 100}
}

func (o opening) rules(retry, cycles int) opening {
	o.r = api.Rules{Retry: retry, Cycles: cycles}
	return o
}

func (o opening) from(base int) opening { o.base = base; return o }

func (o opening) link(mtu int) opening { o.mtu = mtu; return o }

func (o opening) open() (*imports.Import, api.Errno) {
	return imports.Open(o.s, o.service, o.mtu, o.r, o.base)
}

// seg is a data segment of the opening, with the block's bytes.
func (o opening) seg(kind, from, to int, numbers ...int) api.Segment {
	x := api.Segment{Type: kind, Session: o.s, Service: o.service, Offset: from, Data: wholeBlock[from:to]}
	if len(numbers) > 0 {
		x.Check = numbers[0]
	}
	if len(numbers) > 1 {
		x.Report = numbers[1]
	}
	return x
}

// room is where a red part, and a block, can end.
type room struct{ redLow, redHigh, sizeLow, sizeHigh int }

// with is what is left of it by a data segment.
func (r room) with(x api.Segment) room {
	end := x.Offset + len(x.Data)
	r.sizeLow = max(r.sizeLow, end)
	if x.Type <= api.RedLast {
		r.redLow = max(r.redLow, end)
	} else {
		r.redHigh = min(r.redHigh, x.Offset)
	}
	if x.Type == api.RedEnd || x.Type == api.RedLast {
		r.redHigh = min(r.redHigh, end)
	}
	if x.Type == api.RedLast || x.Type == api.GreenLast {
		r.sizeHigh = min(r.sizeHigh, end)
	}
	return r
}

func (r room) none() bool { return r.redLow > r.redHigh || r.sizeLow > r.sizeHigh }

// letter is a report that was made.
type letter struct {
	api.Report
	waits, out, acked bool
	late              int
}

// model is an import that could be opened.
type model struct {
	opening
	came      []bool // as far as the last byte
	bytes     []byte // likewise
	dropped   bool
	red, size int
	room      room
	letters   []*letter // all that ever were made
	checks    []int     // the checkpoints that were answered
	count     int       // of new bytes since the last one
	vain      int
}

func newModel(o opening) *model {
	return &model{opening: o, room: room{0, most, 0, most}}
}

// back is what a journal had, if it may go on.
func (o opening) back(x api.Incoming) (*model, api.Moves) {
	m := newModel(o)
	for _, s := range x.Have {
		data := make([]byte, s.To-s.From)
		if len(x.Data) > 0 {
			copy(data, x.Data[s.From:])
		}
		m.put(s.From, data)
	}
	m.count = 0
	m.red, m.size = x.Red, x.Size
	m.room = room{len(m.came), most, len(m.came), most}
	if m.red > 0 {
		m.room.redLow, m.room.redHigh, m.room.sizeLow = m.red, m.red, m.red
	}
	if m.size > 0 {
		m.room.sizeLow, m.room.sizeHigh = m.size, m.size
	}
	if len(m.came) == 0 {
		return m, api.Moves{}
	}
	m.dropped = len(x.Data) == 0
	return m, api.Moves{Send: m.tell(0, len(m.came), 0)}
}

// spans are those bytes that came, or that did not.
func (m *model) spans(want bool) (l []api.Span) {
	for i, came := range m.came {
		switch {
		case came != want:
		case len(l) > 0 && l[len(l)-1].To == i:
			l[len(l)-1].To = i + 1
		default:
			l = append(l, span(i, i+1))
		}
	}
	return l
}

// put puts bytes to their places, and tells how many were new.
func (m *model) put(at int, data []byte) {
	for i, b := range data {
		for len(m.came) <= at+i {
			m.came, m.bytes = append(m.came, false), append(m.bytes, 0)
		}
		if !m.came[at+i] {
			m.came[at+i], m.bytes[at+i] = true, b
			m.count++
		}
	}
}

// copyOf is a model of which another one does not change by what is done with it, as far as bytes go.
func (m *model) copyOf() *model {
	c := *m
	c.came, c.bytes = slices.Clone(m.came), slices.Clone(m.bytes)
	return &c
}

func (m *model) whole() bool {
	return m.red > 0 && len(m.came) >= m.red && !slices.Contains(m.came[:m.red], false)
}

func isCheck(x api.Segment) bool { return x.Type >= api.RedCheck && x.Type <= api.RedLast }

func (m *model) look(x api.Segment) (api.Verdict, api.Errno) {
	data := x.Type >= 0 && x.Type <= api.GreenPlain || x.Type == api.GreenLast
	if segment.Right(x) != ok || !data || x.Session != m.s || x.Service != m.service {
		return api.Verdict{}, 1
	}
	if m.room.with(x).none() {
		return api.Verdict{Wrong: true}, ok
	}
	behind := m.copyOf()
	behind.count = 0
	var v api.Verdict
	if x.Type <= api.RedLast {
		behind.put(x.Offset, x.Data)
		if len(behind.spans(true)) > 2000 {
			return api.Verdict{Big: true}, ok
		}
		v.Fresh = behind.count
		for i, b := range x.Data {
			if !m.dropped && behind.bytes[x.Offset+i] != b {
				v.Clash++
			}
		}
	}
	if isCheck(x) && !slices.Contains(m.checks, x.Check) && v.Fresh+m.count == 0 && m.vain == m.r.Cycles {
		return api.Verdict{Cycle: true}, ok
	}
	end := x.Offset + len(x.Data)
	if x.Type == api.RedEnd || x.Type == api.RedLast {
		behind.red = end
	}
	if x.Type == api.RedLast || x.Type == api.GreenLast {
		behind.size = end
	}
	v.Red, v.Size = behind.red, behind.size
	v.Whole = behind.whole() && !m.whole()
	return v, ok
}

func (m *model) take(x api.Segment) (api.Moves, api.Errno) {
	v, e := m.look(x)
	switch {
	case e != ok:
		return api.Moves{}, e
	case v.Wrong:
		return api.Moves{Over: true, Why: 3}, ok
	case v.Big:
		return api.Moves{Over: true, Why: 4}, ok
	case v.Cycle:
		return api.Moves{Over: true, Why: 5}, ok
	}
	m.room = m.room.with(x)
	m.red, m.size = v.Red, v.Size
	if x.Type <= api.RedLast {
		m.put(x.Offset, x.Data)
	}
	if !isCheck(x) {
		return api.Moves{}, ok
	}
	return api.Moves{Send: m.answer(x)}, ok
}

func (m *model) answer(x api.Segment) (send []api.Segment) {
	end := x.Offset + len(x.Data)
	if slices.Contains(m.checks, x.Check) {
		for _, r := range m.letters {
			if r.Check == x.Check && r.out && !r.waits && !r.acked {
				r.waits = true
				send = append(send, m.segment(r))
			}
		}
		return send
	}
	m.checks = append(m.checks, x.Check)
	if m.count == 0 {
		m.vain++
	}
	m.count = 0
	lower := 0
	if r := m.find(x.Report); r != nil && r.Lower < end {
		lower = r.Lower
	}
	return m.tell(lower, end, x.Check)
}

func (m *model) tell(lower, upper, check int) (send []api.Segment) {
	l, _ := report.Make(m.s, m.mtu, m.spans(true), lower, upper, check, m.base+1+len(m.letters))
	for _, r := range l {
		x := &letter{Report: r, waits: true}
		m.letters = append(m.letters, x)
		send = append(send, m.segment(x))
	}
	return send
}

// segment is that of a report, worked out without package report.
func (m *model) segment(x *letter) api.Segment {
	return api.Segment{Type: api.ReportType, Session: m.s, Report: x.Serial, Check: x.Check, Lower: x.Lower, Upper: x.Upper, Claims: x.Claims}
}

// find is the report of a serial, nil if there never was one.
func (m *model) find(serial int) *letter {
	for _, r := range m.letters {
		if r.Serial == serial {
			return r
		}
	}
	return nil
}

func (m *model) sent(serial int) api.Moves {
	r := m.find(serial)
	if r == nil || !r.waits {
		return api.Moves{}
	}
	r.waits, r.out = false, true
	if r.acked {
		return api.Moves{}
	}
	return api.Moves{Start: []int{serial}}
}

func (m *model) late(serial int) api.Moves {
	r := m.find(serial)
	switch {
	case r == nil || !r.out || r.waits || r.acked:
		return api.Moves{}
	case r.late == m.r.Retry:
		return api.Moves{Over: true, Why: 2}
	}
	r.late, r.waits = r.late+1, true
	return api.Moves{Send: []api.Segment{m.segment(r)}}
}

func (m *model) ack(serial int) api.Moves {
	r := m.find(serial)
	if r == nil || r.acked {
		return api.Moves{}
	}
	r.acked = true
	return api.Moves{Stop: []int{serial}}
}

func (m *model) held() int {
	if m.dropped {
		return 0
	}
	n := 0
	for _, came := range m.came {
		if came {
			n++
		}
	}
	return n
}

func (m *model) redBytes() []byte {
	if m.dropped || !m.whole() {
		return nil
	}
	return m.bytes[:m.red]
}

func (m *model) closed() bool {
	if m.red == 0 || m.size == 0 {
		return false
	}
	claimed := make([]bool, m.red)
	for _, r := range m.letters {
		for _, s := range r.Claims {
			for i := s.From; r.acked && i < min(s.To, m.red); i++ {
				claimed[i] = true
			}
		}
	}
	return !slices.Contains(claimed, false)
}

func (m *model) waits() (n int) {
	for _, r := range m.letters {
		if !r.acked {
			n++
		}
	}
	return n
}

func sameSegment(a, b api.Segment) bool {
	numbers := func(s api.Segment) [11]int {
		return [11]int{s.Type, s.Session.Origin, s.Session.Number, s.Service, s.Offset, s.Check, s.Report, s.Upper, s.Lower, s.Reason, len(s.Head) + len(s.Tail)}
	}
	return numbers(a) == numbers(b) && bytes.Equal(a.Data, b.Data) && slices.Equal(a.Claims, b.Claims)
}

// same tells whether two answers have the same in each field.
func same(a, b api.Moves) bool {
	return slices.Equal(a.Stop, b.Stop) && slices.EqualFunc(a.Send, b.Send, sameSegment) && slices.Equal(a.Start, b.Start) &&
		a.Sent == b.Sent && a.Done == b.Done && a.Over == b.Over && a.Why == b.Why
}

// What can be called; the others are asked behind each.
const (
	doTake = iota
	doSent
	doLate
	doAck
	doDrop
)

// call is one of an import, with what it has of these.
type call struct {
	do     int
	x      api.Segment
	serial int
}

func takes(x api.Segment) call { return call{do: doTake, x: x} }
func sends(serial int) call    { return call{do: doSent, serial: serial} }
func lates(serial int) call    { return call{do: doLate, serial: serial} }
func acks(serial int) call     { return call{do: doAck, serial: serial} }
func drops() call              { return call{do: doDrop} }

func (c call) calls(x callee) (m api.Moves, e api.Errno) {
	switch c.do {
	case doTake:
		return x.take(c.x)
	case doSent:
		return x.sent(c.serial), ok
	case doLate:
		return x.late(c.serial), ok
	case doAck:
		return x.ack(c.serial), ok
	}
	x.drop()
	return m, ok
}

// callee is an import, or its model.
type callee interface {
	take(api.Segment) (api.Moves, api.Errno)
	sent(int) api.Moves
	late(int) api.Moves
	ack(int) api.Moves
	drop()
}

func (m *model) drop() { m.dropped = true }

// real is the import.
type real struct{ m *imports.Import }

func (x real) take(s api.Segment) (api.Moves, api.Errno) { return x.m.Take(s) }
func (x real) sent(serial int) api.Moves                 { return x.m.Sent(serial) }
func (x real) late(serial int) api.Moves                 { return x.m.Late(serial) }
func (x real) ack(serial int) api.Moves                  { return x.m.Ack(serial) }
func (x real) drop()                                     { x.m.Drop() }

// shown is all that an import shows.
type shown struct {
	have          []api.Span
	red, held     int
	bytes         []byte
	whole, closed bool
	waits         int
}

func (s shown) String() string {
	return fmt.Sprintf("Have %v, Red %d, Held %d, %d Bytes, Whole %v, Closed %v, Waits %d", s.have, s.red, s.held, len(s.bytes), s.whole, s.closed, s.waits)
}

func (s shown) same(o shown) bool {
	return slices.Equal(s.have, o.have) && s.red == o.red && s.held == o.held && bytes.Equal(s.bytes, o.bytes) && s.whole == o.whole && s.closed == o.closed && s.waits == o.waits
}

func shows(m *imports.Import) shown {
	return shown{m.Have(), m.Red(), m.Held(), m.Bytes(), m.Whole(), m.Closed(), m.Waits()}
}

func (m *model) shows() shown {
	return shown{m.spans(true), m.red, m.held(), m.redBytes(), m.whole(), m.closed(), m.waits()}
}

// both are an import, and the model that it is held against.
type both struct {
	*imports.Import
	m *model
}

// begin opens both.
func begin(t *testing.T, o opening) *both {
	x, e := o.open()
	if e != ok || x == nil {
		t.Helper()
		t.Fatalf("Open of %v: %v", o, e)
	}
	b := &both{x, newModel(o)}
	b.mustLook(t)
	return b
}

// again begins both by what a journal had.
func again(t *testing.T, o opening, x api.Incoming) (*both, api.Moves) {
	t.Helper()
	x.Session, x.Service = o.s, o.service
	m, got, e := imports.Back(x, o.mtu, o.r, o.base)
	fatalIf(t, e != ok || m == nil, "Back of %v: %v", x, e)
	want, moves := o.back(x)
	fatalIf(t, !same(got, moves), "Back: %v, not %v", got, moves)
	b := &both{m, want}
	wrong := b.right(got.Send)
	fatalIf(t, wrong != "", "Back: %s", wrong)
	b.mustLook(t)
	return b, got
}

// looks asks all that can be asked, twice, as that changes nothing, and tells what is not as the model has it.
func (b *both) looks() string {
	want := b.m.shows()
	for range 2 {
		if got := shows(b.Import); !got.same(want) {
			return fmt.Sprintf("%v, not %v", got, want)
		}
	}
	return ""
}

func (b *both) mustLook(t *testing.T) {
	if wrong := b.looks(); wrong != "" {
		t.Helper()
		t.Fatal(wrong)
	}
}

// right tells what is not as it is to be of what is sent: reports that fit, of bytes that came (P13.11).
func (b *both) right(l []api.Segment) string {
	for _, x := range l {
		raw, e := segment.Print(x)
		if e != ok || len(raw) > b.m.mtu || x.Type != api.ReportType {
			return fmt.Sprintf("a segment of %d bytes, error %v: %v", len(raw), e, x)
		}
		for _, s := range x.Claims {
			if s.To > len(b.m.came) || slices.Contains(b.m.came[s.From:s.To], false) {
				return fmt.Sprintf("bytes that did not come: %v", x)
			}
		}
	}
	return ""
}

// tries calls both, and tells what is not the same of both.
func (b *both) tries(c call) (api.Moves, api.Errno, string) {
	var seen api.Verdict
	before := shows(b.Import)
	if c.do == doTake {
		wrong := ""
		if seen, wrong = b.judges(c.x); wrong != "" {
			return api.Moves{}, ok, wrong
		}
	}
	made := len(b.m.letters)
	got, e := c.calls(real{b.Import})
	want, f := c.calls(b.m)
	if !same(got, want) || e != f {
		return got, e, fmt.Sprintf("%v %v, not %v %v", got, e, want, f)
	}
	wrong := cmp.Or(b.looks(), b.right(got.Send))
	if wrong == "" && c.do == doTake && e == ok && !got.Over {
		wrong = b.asItLooked(seen, before)
	}
	if wrong == "" && got.Over {
		wrong = b.over(c, got, before)
	}
	if wrong == "" && c.do != doTake && len(b.m.letters) != made {
		wrong = "a new report"
	}
	return got, e, wrong
}

// judges looks at a segment, twice, as that changes nothing.
func (b *both) judges(x api.Segment) (got api.Verdict, wrong string) {
	want, f := b.m.look(x)
	for range 2 {
		v, e := b.Look(x)
		if v != want || e != f {
			return v, fmt.Sprintf("Look: %+v %v, not %+v %v", v, e, want, f)
		}
		got = v
	}
	return got, b.looks()
}

// asItLooked tells what is not as P13.12 says.
func (b *both) asItLooked(v api.Verdict, before shown) string {
	size := func(l []api.Span) (n int) {
		for _, s := range l {
			n += s.To - s.From
		}
		return n
	}
	switch now := shows(b.Import); {
	case size(now.have) != size(before.have)+v.Fresh:
		return fmt.Sprintf("Have grew from %v to %v, Fresh was %d", before.have, now.have, v.Fresh)
	case now.red != v.Red:
		return fmt.Sprintf("Red is %d, not %d", now.red, v.Red)
	case now.whole != (before.whole || v.Whole) || before.whole && v.Whole:
		return fmt.Sprintf("Whole is %v, and was %v", now.whole, before.whole)
	}
	return ""
}

// over tells what is not as P13.12 says of Over: once more it is the same, and nothing has changed.
func (b *both) over(c call, got api.Moves, before shown) string {
	if again, _ := c.calls(real{b.Import}); !same(got, again) {
		return fmt.Sprintf("once more: %v, not %v", again, got)
	}
	if now := shows(b.Import); !now.same(before) {
		return fmt.Sprintf("behind Over: %v, not %v", now, before)
	}
	return ""
}

// does calls both, and wants the same of both.
func (b *both) does(t *testing.T, c call) api.Moves {
	got, _, wrong := b.tries(c)
	if wrong != "" {
		t.Helper()
		t.Fatalf("%v: %s", c, wrong)
	}
	return got
}

// wants calls both, and wants that answer.
func (b *both) wants(t *testing.T, c call, want api.Moves) {
	t.Helper()
	got := b.does(t, c)
	fatalIf(t, !same(got, want), "%v: %v, not %v", c, got, want)
}

// judged looks at a segment, and wants that verdict.
func (b *both) judged(t *testing.T, x api.Segment, want api.Verdict) {
	t.Helper()
	got, wrong := b.judges(x)
	fatalIf(t, wrong != "", "%v: %s", x, wrong)
	fatalIf(t, got != want, "%v: %+v, not %+v", x, got, want)
}

// take takes a segment of the block.
func (b *both) take(t *testing.T, kind, from, to int, numbers ...int) api.Moves {
	t.Helper()
	return b.does(t, takes(b.m.seg(kind, from, to, numbers...)))
}

// tells is a report's segment.
func (b *both) tells(serial, check, lower, upper int, ends ...int) api.Segment {
	return b.m.segment(&letter{Report: api.Report{Serial: serial, Check: check, Lower: lower, Upper: upper, Claims: spans(ends...)}})
}

// serialsOf are those of the reports that are sent.
func serialsOf(m api.Moves) (l []int) {
	for _, x := range m.Send {
		l = append(l, x.Report)
	}
	return l
}

// The answers that say one thing.
func starts(serial int) api.Moves          { return api.Moves{Start: []int{serial}} }
func stops(serial int) api.Moves           { return api.Moves{Stop: []int{serial}} }
func brings(l ...api.Segment) api.Moves    { return api.Moves{Send: l} }
func overFor(why int) api.Moves            { return api.Moves{Over: true, Why: why} }
func hasSerials(m api.Moves, l []int) bool { return slices.Equal(serialsOf(m), l) }
