package export_test

import (
	"bytes"
	"cmp"
	"fmt"
	"math"
	"slices"
	"testing"

	"lantern/api"
	"lantern/blocks"
	"lantern/export"
	"lantern/segment"
)

// What the chapter says, once more and in another way than the package: each red byte is known or not, every checkpoint that ever was stands in a list, with what became of it; who asks goes through them.

const (
	top    = 1<<62 - 1 // MaxNum
	most   = 65536     // MaxBlock
	maxInt = math.MaxInt
	minInt = math.MinInt
	ok     = api.OK
)

// fatalIf marks itself as a helper in need alone: that takes time, and it is called often.
func fatalIf(t *testing.T, wrong bool, words string, what ...any) {
	if wrong {
		t.Helper()
		t.Fatalf(words, what...)
	}
}

func span(from, to int) api.Span { return api.Span{From: from, To: to} }

// block is one of n bytes, of which none is like its neighbours.
func block(n int) []byte {
	b := make([]byte, n)
	for i := range b {
		b[i] = byte(i*7 + i/256)
	}
	return b
}

// opening is what Open is given.
type opening struct {
	s     api.Session
	p     api.Parcel
	block []byte
	r     api.Rules
	base  int
	again bool
}

// usual is that of the chapter's examples, with other numbers of bytes.
func usual(size, red int) opening {
	return opening{
		s:     api.Session{Origin: 1, Number: 5},
		p:     api.Parcel{Service: 7, Size: size, Red: red, Mtu: 80},
		block: block(size),
		r:     api.Rules{Retry: 1, Cycles: 2},
	}
}

func (o opening) every(n int) opening { o.p.Every = n; return o }

func (o opening) rules(retry, cycles int) opening {
	o.r = api.Rules{Retry: retry, Cycles: cycles}
	return o
}

func (o opening) from(base int) opening { o.base = base; return o }

func (o opening) reopened() opening { o.again, o.block = true, o.block[:o.p.Red]; return o }

func (o opening) open() (*export.Export, api.Moves, api.Errno) {
	return export.Open(o.s, o.p, o.block, o.r, o.base, o.again)
}

// segment is that of a piece of the block, worked out without package blocks.
func (o opening) segment(x api.Piece) api.Segment {
	return api.Segment{Type: x.Type, Session: o.s, Service: o.p.Service, Offset: x.From, Data: o.block[x.From:x.To], Check: x.Check, Report: x.Report}
}

func (o opening) segments(l []api.Piece) (out []api.Segment) {
	for _, x := range l {
		out = append(out, o.segment(x))
	}
	return out
}

// first are the first pieces.
func (o opening) first() []api.Piece {
	l, _ := blocks.Cut(o.s, o.p, o.base)
	if !o.again {
		return l
	}
	for _, x := range slices.Backward(l) {
		if x.Type < api.GreenPlain {
			x.Check = o.base + 1
			return []api.Piece{x}
		}
	}
	return nil
}

// mark is a checkpoint that was put on.
type mark struct {
	piece       api.Piece
	open, waits bool
	again       int
}

// model is an export that could be opened.
type model struct {
	opening
	pieces  []api.Piece // the first ones
	marks   []*mark     // all that ever were, as they were put on
	known   []bool      // each red byte
	serials []int       // of the reports that were read
	vain    int         // how many of them brought nothing
	went    bool        // the last one of the first pieces
	whole   bool
}

func newModel(o opening) (*model, api.Moves) {
	m := &model{opening: o, pieces: o.first(), known: make([]bool, o.p.Red)}
	return m, api.Moves{Send: m.put(m.pieces)}
}

func (m *model) put(l []api.Piece) []api.Segment {
	for _, x := range l {
		if x.Type >= api.RedCheck && x.Type <= api.RedLast {
			m.marks = append(m.marks, &mark{piece: x, open: true, waits: true})
		}
	}
	return m.segments(l)
}

// find is the checkpoint of a number, nil if there never was one.
func (m *model) find(check int) *mark {
	for _, x := range m.marks {
		if x.piece.Check == check {
			return x
		}
	}
	return nil
}

// numbers are those of the checkpoints that are open, as they were put on.
func (m *model) numbers() (l []int) {
	for _, x := range m.marks {
		if x.open {
			l = append(l, x.piece.Check)
		}
	}
	return l
}

func (m *model) sent(x api.Segment) (out api.Moves) {
	if x.Session != m.s {
		return out
	}
	if c := m.find(x.Check); c != nil {
		c.waits = false
		if c.open {
			out.Start = []int{x.Check}
		}
	}
	last := m.pieces[len(m.pieces)-1]
	if (api.Piece{Type: x.Type, From: x.Offset, To: last.To, Check: x.Check, Report: last.Report}) == last && !m.went {
		m.went = true
		out.Sent = !m.again
	}
	return out
}

func (m *model) late(check int) api.Moves {
	c := m.find(check)
	switch {
	case c == nil || !c.open || c.waits:
		return api.Moves{}
	case c.again == m.r.Retry:
		return api.Moves{Over: true, Why: 2}
	}
	c.again, c.waits = c.again+1, true
	return api.Moves{Send: []api.Segment{m.segment(c.piece)}}
}

// reportMayBe is what chapter 5 says.
func reportMayBe(r api.Report) bool {
	if r.Serial < 1 || r.Serial > top || r.Check < 0 || r.Check > top || r.Lower < 0 || r.Upper > most || r.Lower >= r.Upper || len(r.Claims) < 1 || len(r.Claims) > 1000 {
		return false
	}
	at := r.Lower - 1
	for _, s := range r.Claims {
		if s.From <= at || s.To <= s.From || s.To > r.Upper {
			return false
		}
		at = s.To
	}
	return true
}

// spans are the bytes from lower on, below upper, that are known, or that are not.
func spans(known []bool, lower, upper int, want bool) (l []api.Span) {
	inside := false
	for i := lower; i < upper; i++ {
		if known[i] != want {
			inside = false
			continue
		}
		if !inside {
			l = append(l, span(i, i))
		}
		inside = true
		l[len(l)-1].To = i + 1
	}
	return l
}

func (m *model) report(r api.Report) (out api.Moves) {
	if m.p.Red == 0 || m.whole || !reportMayBe(r) || slices.Contains(m.serials, r.Serial) {
		return out
	}
	known := slices.Clone(m.known)
	for _, s := range r.Claims {
		for i := s.From; i < min(s.To, m.p.Red); i++ {
			known[i] = true
		}
	}
	if len(spans(known, 0, m.p.Red, true)) > 2000 {
		known = m.known
	}
	vain := slices.Equal(known, m.known)
	switch {
	case !slices.Contains(known, false):
		return api.Moves{Done: true}
	case vain && m.vain == m.r.Cycles:
		return api.Moves{Over: true, Why: 5}
	case vain:
		m.vain++
	}
	m.known, m.serials = known, append(m.serials, r.Serial)
	if c := m.find(r.Check); c != nil && c.open {
		c.open = false
		out.Stop = []int{r.Check}
	}
	out.Send = m.batch(r)
	return out
}

func (m *model) batch(r api.Report) []api.Segment {
	if slices.ContainsFunc(m.marks, func(x *mark) bool { return x.open && x.waits }) {
		return nil
	}
	gaps := spans(m.known, r.Lower, min(r.Upper, m.p.Red), false)
	if len(gaps) == 0 && len(m.numbers()) == 0 {
		gaps = spans(m.known, 0, m.p.Red, false)
	}
	if len(gaps) == 0 {
		return nil
	}
	next := m.base + 1
	for _, x := range m.marks {
		next = max(next, x.piece.Check+1)
	}
	l, _ := blocks.Again(m.s, m.p, gaps[:min(len(gaps), 2000)], next, r.Serial)
	return m.put(l)
}

func (m *model) finish() (out api.Moves) {
	if m.p.Red == 0 || m.whole {
		return out
	}
	out.Stop = m.numbers()
	slices.Sort(out.Stop)
	for _, x := range m.marks {
		x.open = false
	}
	for i := range m.known {
		m.known[i] = true
	}
	m.whole = true
	return out
}

func (m *model) out() bool { return m.went || m.again || m.whole && m.p.Red == m.p.Size }

func (m *model) have() []api.Span { return spans(m.known, 0, len(m.known), true) }

func sameSegment(a, b api.Segment) bool {
	numbers := func(s api.Segment) [12]int {
		return [12]int{s.Type, s.Session.Origin, s.Session.Number, s.Service, s.Offset, s.Check, s.Report, s.Upper, s.Lower, s.Reason, len(s.Head) + len(s.Tail), len(s.Claims)}
	}
	return numbers(a) == numbers(b) && bytes.Equal(a.Data, b.Data)
}

// same tells whether two answers have the same in each field.
func same(a, b api.Moves) bool {
	return slices.Equal(a.Stop, b.Stop) && slices.EqualFunc(a.Send, b.Send, sameSegment) && slices.Equal(a.Start, b.Start) &&
		a.Sent == b.Sent && a.Done == b.Done && a.Over == b.Over && a.Why == b.Why
}

// What can be called; the others are asked behind each.
const (
	doSent = iota
	doLate
	doReport
	doFinish
)

// call is one of an export, with what it has of these.
type call struct {
	do    int
	x     api.Segment
	check int
	r     api.Report
}

func sends(x api.Segment) call  { return call{do: doSent, x: x} }
func lates(check int) call      { return call{do: doLate, check: check} }
func reports(r api.Report) call { return call{do: doReport, r: r} }
func finishes() call            { return call{do: doFinish} }
func (c call) calls(x callee) api.Moves {
	switch c.do {
	case doSent:
		return x.sent(c.x)
	case doLate:
		return x.late(c.check)
	case doReport:
		return x.report(c.r)
	}
	return x.finish()
}

// callee is an export, or its model.
type callee interface {
	sent(api.Segment) api.Moves
	late(int) api.Moves
	report(api.Report) api.Moves
	finish() api.Moves
}

// real is the export.
type real struct{ e *export.Export }

func (x real) sent(s api.Segment) api.Moves  { return x.e.Sent(s) }
func (x real) late(check int) api.Moves      { return x.e.Late(check) }
func (x real) report(r api.Report) api.Moves { return x.e.Report(r) }
func (x real) finish() api.Moves             { return x.e.Finish() }

// told is a report from 0 up to an end, in answer to a checkpoint.
func told(serial, check, upper int, l ...api.Span) api.Report {
	return api.Report{Serial: serial, Check: check, Upper: upper, Claims: l}
}

// both are an export, and the model that it is held against.
type both struct {
	*export.Export
	m        *model
	all      []byte        // the block
	first    []api.Segment // what Open sent
	greatest int           // check number till now
}

// begin opens both.
func begin(t *testing.T, o opening) *both {
	x, got, e := o.open()
	m, want := newModel(o)
	b := &both{Export: x, m: m, all: block(o.p.Size), first: got.Send, greatest: o.base}
	wrong := ""
	switch {
	case e != ok || x == nil:
		wrong = "refused: " + e.Error()
	case !same(got, want):
		wrong = fmt.Sprintf("%v, not %v", got, want)
	default:
		wrong = cmp.Or(b.looks(), b.right(got.Send, true))
	}
	if wrong != "" {
		t.Helper()
		t.Fatalf("Open of %v: %s", o.p, wrong)
	}
	return b
}

// looks asks all that can be asked, twice, as that changes nothing, and tells what is not as the model has it.
func (b *both) looks() string {
	have, open := b.m.have(), len(b.m.numbers())
	for range 2 {
		switch {
		case !slices.Equal(b.Have(), have):
			return fmt.Sprintf("Have: %v, not %v", b.Have(), have)
		case b.Pending() != open:
			return fmt.Sprintf("Pending: %d, not %d", b.Pending(), open)
		case b.Whole() != b.m.whole:
			return fmt.Sprintf("Whole: %v", b.Whole())
		case b.Out() != b.m.out():
			return fmt.Sprintf("Out: %v", b.Out())
		case b.m.p.Red > 0 && !b.Whole() && b.Pending() == 0: // P12.8
			return "it is not whole, and no checkpoint is open"
		}
	}
	return ""
}

// right tells what is not as P12.9 says of what is put; fresh: its checkpoints were not put on before.
func (b *both) right(l []api.Segment, fresh bool) string {
	for _, x := range l {
		raw, e := segment.Print(x)
		switch {
		case e != ok || len(raw) > b.m.p.Mtu:
			return fmt.Sprintf("a segment of %d bytes, error %v: %v", len(raw), e, x)
		case !bytes.Equal(x.Data, b.all[x.Offset:x.Offset+len(x.Data)]):
			return fmt.Sprintf("bytes that are not the block's: %v", x)
		case fresh && x.Check != 0 && x.Check <= b.greatest:
			return fmt.Sprintf("a check number that is not above %d: %v", b.greatest, x)
		}
		b.greatest = max(b.greatest, x.Check)
	}
	return ""
}

// tries calls both, and tells what is not the same of both.
func (b *both) tries(c call) (api.Moves, string) {
	got, want := c.calls(real{b.Export}), c.calls(b.m)
	if !same(got, want) {
		return got, fmt.Sprintf("%v, not %v", got, want)
	}
	if wrong := cmp.Or(b.looks(), b.right(got.Send, c.do == doReport)); wrong != "" {
		return got, wrong
	}
	if !got.Done && !got.Over {
		return got, ""
	}
	// P12.11
	if again := c.calls(real{b.Export}); !same(got, again) {
		return got, fmt.Sprintf("once more: %v, not %v", again, got)
	}
	return got, b.looks()
}

// does calls both, and wants the same of both.
func (b *both) does(t *testing.T, c call) api.Moves {
	got, wrong := b.tries(c)
	if wrong != "" {
		t.Helper()
		t.Fatalf("%v: %s", c, wrong)
	}
	return got
}

// wants calls both, and wants that answer.
func (b *both) wants(t *testing.T, c call, want api.Moves) {
	t.Helper()
	got := b.does(t, c)
	fatalIf(t, !same(got, want), "%v: %v, not %v", c, got, want)
}

// goOut lets segments go out.
func (b *both) goOut(t *testing.T, l []api.Segment) {
	t.Helper()
	for _, x := range l {
		b.does(t, sends(x))
	}
}
