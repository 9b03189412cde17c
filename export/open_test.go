package export_test

import (
	"testing"

	"lantern/api"
)

// fault is something that is wrong with what Open is given, and what Open says of it.
type fault struct {
	name  string
	e     api.Errno
	spoil func(*opening)
}

// needs tells how many bytes of the block Open wants.
func (o opening) needs() int {
	if o.again {
		return o.p.Red
	}
	return o.p.Size
}

// faults are those of P12.1, in the order in which they are told.
func faults() []fault {
	return []fault{
		{"a block that is too long", api.ErrLong, func(o *opening) { o.block = make([]byte, most+1) }},
		{"no origin", api.ErrArg, func(o *opening) { o.s.Origin = 0 }},
		{"an origin below 0", api.ErrArg, func(o *opening) { o.s.Origin = minInt }},
		{"an origin above the limit", api.ErrArg, func(o *opening) { o.s.Origin = top + 1 }},
		{"no number", api.ErrArg, func(o *opening) { o.s.Number = 0 }},
		{"a number at MaxNum", api.ErrArg, func(o *opening) { o.s.Number = top }},
		{"a service below 0", api.ErrBlocksPlan, func(o *opening) { o.p.Service = -1 }},
		{"a service above the limit", api.ErrBlocksPlan, func(o *opening) { o.p.Service = top + 1 }},
		{"no bytes", api.ErrBlocksPlan, func(o *opening) { o.p.Size = 0 }},
		{"too many bytes", api.ErrBlocksPlan, func(o *opening) { o.p.Size = most + 1 }},
		{"a red part below 0", api.ErrBlocksPlan, func(o *opening) { o.p.Red = -1 }},
		{"a red part above the size", api.ErrBlocksPlan, func(o *opening) { o.p.Red = o.p.Size + 1 }},
		{"an Mtu too small", api.ErrBlocksPlan, func(o *opening) { o.p.Mtu = 79 }},
		{"an Mtu too great", api.ErrBlocksPlan, func(o *opening) { o.p.Mtu = 4097 }},
		{"Every below 0", api.ErrBlocksPlan, func(o *opening) { o.p.Every = -1 }},
		{"Every above the limit", api.ErrBlocksPlan, func(o *opening) { o.p.Every = most + 1 }},
		{"a byte less", api.ErrArg, func(o *opening) { o.block = make([]byte, o.needs()-1) }},
		{"a byte more", api.ErrArg, func(o *opening) { o.block = make([]byte, o.needs()+1) }},
		{"no bytes handed in", api.ErrArg, func(o *opening) { o.block = nil }},
		{"Retry 0", api.ErrArg, func(o *opening) { o.r.Retry = 0 }},
		{"Retry above the limit", api.ErrArg, func(o *opening) { o.r.Retry = 101 }},
		{"Cycles 0", api.ErrArg, func(o *opening) { o.r.Cycles = 0 }},
		{"Cycles above the limit", api.ErrArg, func(o *opening) { o.r.Cycles = 1001 }},
		{"a base below 0", api.ErrArg, func(o *opening) { o.base = -1 }},
		{"the least base", api.ErrArg, func(o *opening) { o.base = minInt }},
		{"a base above the limit", api.ErrArg, func(o *opening) { o.base = top - 1<<24 + 1 }},
		{"a base that Cut takes", api.ErrArg, func(o *opening) { o.base = top - most }},
		{"the greatest base", api.ErrArg, func(o *opening) { o.base = maxInt }},
	}
}

func refused(t *testing.T, o opening, want api.Errno, what ...any) {
	t.Helper()
	x, m, e := o.open()
	fatalIf(t, e != want || x != nil || !same(m, api.Moves{}), "%v: %v, not %v; %v %v", what, e, want, x, m)
}

// good are openings of all kinds that can be.
func good() []opening {
	return []opening{usual(200, 200), usual(300, 200), usual(200, 0), usual(1, 1), usual(300, 200).reopened(), usual(200, 200).reopened()}
}

// Each fault, and each two of them at once: the first one is told.
func TestP121Errors(t *testing.T) {
	l := faults()
	for _, o := range good() {
		_, _, e := o.open()
		fatalIf(t, e != ok, "%v: %v", o.p, e)
		for i, a := range l {
			for _, b := range l[i:] {
				x := o
				b.spoil(&x)
				a.spoil(&x) // the last one stands, whatever the other one did
				refused(t, x, a.e, o.p, o.again, a.name, b.name)
			}
		}
	}
}

// Opened again without a red part: with no bytes, as Red says, and with all.
func TestP121AgainWithoutRed(t *testing.T) {
	o := usual(200, 0).reopened()
	refused(t, o, api.ErrArg, "no red part")
	o.block = block(200)
	refused(t, o, api.ErrArg, "no red part, all bytes")
	o.p.Mtu = 0
	refused(t, o, api.ErrBlocksPlan, "no red part, and no Mtu")
}

// Opened again it takes the red part alone; opened for the first time all.
func TestP121WhichBytes(t *testing.T) {
	o := usual(300, 200)
	o.again = true
	refused(t, o, api.ErrArg, "again, with the green part")
	o = usual(300, 200).reopened()
	o.again = false
	refused(t, o, api.ErrArg, "the red part alone")
}

// What is at a limit can be.
func TestP121Limits(t *testing.T) {
	for i, change := range []func(*opening){
		func(o *opening) { o.s = api.Session{Origin: top, Number: top - 1} },
		func(o *opening) { o.p.Service = 0 },
		func(o *opening) { o.p.Service = top },
		func(o *opening) { o.p.Mtu = 4096 },
		func(o *opening) { o.p.Every = most },
		func(o *opening) { o.r = api.Rules{Retry: 100, Cycles: 1000} },
		func(o *opening) { o.r = api.Rules{Retry: 1, Cycles: 1} },
		func(o *opening) { o.base = top - 1<<24 },
		func(o *opening) { o.p.Size, o.p.Red, o.block = most, most, block(most) },
		func(o *opening) { o.p.Size, o.block = most, block(most) },
		func(o *opening) { *o = usual(1, 1) },
		func(o *opening) { *o = usual(1, 0) },
	} {
		o := usual(200, 200)
		change(&o)
		b := begin(t, o)
		fatalIf(t, b.Whole() || b.Out() || len(b.Have()) != 0, "%d: it is not new", i)
		if o.p.Red > 0 {
			begin(t, o.reopened())
		}
	}
}

// The first pieces are those of Cut: all of them, in their order.
func TestP121FirstPieces(t *testing.T) {
	for _, size := range []int{1, 70, 71, 72, 73, 74, 142, 200, 300, 5000} {
		for _, red := range []int{0, 1, size / 2, size - 1, size} {
			for every := range 4 {
				for _, base := range []int{0, 126, 127, 1 << 24, top - 1<<24} {
					o := usual(size, red).every(every).from(base)
					b := begin(t, o)
					at, checks := 0, 0
					for _, x := range b.first {
						fatalIf(t, x.Offset != at, "%v: a piece at %d, not %d", o.p, x.Offset, at)
						at += len(x.Data)
						if x.Check != 0 {
							checks++
							fatalIf(t, x.Check != base+checks, "%v: the check number %d", o.p, x.Check)
						}
					}
					fatalIf(t, at != size || b.Pending() != checks, "%v: %d bytes, %d checkpoints, %d of them open", o.p, at, checks, b.Pending())
				}
			}
		}
	}
}

// Opened again just one piece is put: the last red one, whatever its number was.
func TestP121Again(t *testing.T) {
	for _, size := range []int{1, 71, 72, 200, 5000} {
		for _, red := range []int{1, (size + 1) / 2, size} {
			for every := range 4 {
				for _, base := range []int{0, 126, 127, top - 1<<24} {
					o := usual(size, red).every(every).from(base).reopened()
					b := begin(t, o)
					fatalIf(t, len(b.first) != 1 || b.Pending() != 1 || !b.Out(), "%v: %v, %d open", o.p, b.first, b.Pending())
					x := b.first[0]
					kind := api.RedLast
					if red < size {
						kind = api.RedEnd
					}
					fatalIf(t, x.Type != kind || x.Check != base+1 || x.Report != 0 || x.Offset+len(x.Data) != red, "%v: %v", o.p, x)
				}
			}
		}
	}
}

// The chapter's table of examples.
func TestExamples(t *testing.T) {
	o := usual(200, 200)
	b := begin(t, o)
	three := o.segments([]api.Piece{{Type: api.RedPlain, From: 0, To: 73}, {Type: api.RedPlain, From: 73, To: 146}, {Type: api.RedLast, From: 146, To: 200, Check: 1}})
	fatalIf(t, !same(api.Moves{Send: b.first}, api.Moves{Send: three}) || b.Pending() != 1 || b.Out(), "Open: %v", b.first)
	b.wants(t, lates(1), api.Moves{})
	b.wants(t, sends(three[0]), api.Moves{})
	b.wants(t, sends(three[1]), api.Moves{})
	b.wants(t, sends(three[2]), api.Moves{Start: []int{1}, Sent: true})
	fatalIf(t, !b.Out(), "Out")
	b.wants(t, lates(1), api.Moves{Send: three[2:]})
	b.wants(t, sends(three[2]), api.Moves{Start: []int{1}})
	b.wants(t, lates(1), api.Moves{Over: true, Why: api.ByRetry})
	batch := o.segments([]api.Piece{{Type: api.RedPlain, From: 73, To: 145}, {Type: api.RedCheck, From: 145, To: 146, Check: 2, Report: 9}})
	nine := told(9, 1, 200, span(0, 73), span(146, 200))
	b.wants(t, reports(nine), api.Moves{Stop: []int{1}, Send: batch})
	fatalIf(t, b.Pending() != 1, "Pending: %d", b.Pending())
	b.wants(t, reports(nine), api.Moves{})
	b.wants(t, reports(told(10, 1, 200, span(0, 73))), api.Moves{})
	b.wants(t, sends(batch[1]), api.Moves{Start: []int{2}})
	b.wants(t, reports(told(11, 2, 146, span(0, 146))), api.Moves{Done: true})
	b.wants(t, finishes(), api.Moves{Stop: []int{2}})
	fatalIf(t, !b.Whole(), "Whole")
	b.wants(t, lates(2), api.Moves{})
	b.wants(t, reports(told(12, 2, 146, span(0, 146))), api.Moves{})
	o = usual(300, 200).reopened()
	b = begin(t, o)
	end := o.segments([]api.Piece{{Type: api.RedEnd, From: 146, To: 200, Check: 1}})
	fatalIf(t, !same(api.Moves{Send: b.first}, api.Moves{Send: end}) || !b.Out(), "again: %v", b.first)
}

// The line "Errors": no other number is ever answered.
func TestErrors(t *testing.T) {
	fatalIf(t, api.ErrArg != 1 || api.ErrLong != 2 || api.ErrBlocksPlan != 40, "numbers")
	told := map[api.Errno]int{}
	for _, x := range faults() {
		o := usual(200, 200)
		x.spoil(&o)
		_, _, e := o.open()
		told[e]++
	}
	fatalIf(t, len(told) != 3 || told[1] == 0 || told[2] == 0 || told[40] == 0, "errors: %v", told)
}
