package imports_test

import (
	"math/rand/v2"
	"slices"
	"testing"

	"lantern/api"
	"lantern/blocks"
	"lantern/claims"
	"lantern/export"
	"lantern/report"
)

// parcel is a block that is cut, of so many bytes.
func parcel(size, red, every int) api.Parcel {
	return api.Parcel{Service: 7, Size: size, Red: red, Mtu: 80, Every: every}
}

// cut are the segments of a block.
func cut(p api.Parcel) (l []api.Segment) {
	pieces, _ := blocks.Cut(usual().s, p, 0)
	for _, x := range pieces {
		l = append(l, usual().seg(x.Type, x.From, x.To, x.Check, x.Report))
	}
	return l
}

// brought is what comes to an import of a block: it wants what P13.10 says.
type brought struct {
	*both
	p     api.Parcel
	ended bool // the red part's end came
	whole int  // how often that was told
}

func newBrought(t *testing.T, p api.Parcel) *brought {
	o := usual().rules(1, 1000).link(p.Mtu)
	o.service = p.Service
	return &brought{both: begin(t, o), p: p}
}

func (b *brought) comes(t *testing.T, x api.Segment) api.Moves {
	t.Helper()
	before := claims.Covers(b.Have(), span(0, b.p.Red)) && b.ended
	b.ended = b.ended || x.Type == api.RedEnd || x.Type == api.RedLast
	v, e := b.Look(x)
	m := b.does(t, takes(x))
	now := claims.Covers(b.Have(), span(0, b.p.Red)) && b.ended
	fatalIf(t, e != ok || v.Wrong || v.Big || v.Cycle || m.Over, "%v: %v: %+v", b.p, x, v)
	fatalIf(t, v.Whole != (now && !before) || b.Whole() != now, "%v: %v: Whole is told: %v", b.p, x, v.Whole)
	if v.Whole {
		b.whole++
	}
	if now {
		fatalIf(t, b.whole != 1 || !slices.Equal(b.Bytes(), wholeBlock[:b.p.Red]), "%v: Bytes: %v", b.p, b.Bytes())
	}
	return m
}

// Segments of one block, in every order, and in every order with each of them doubled.
func TestP1310EveryOrder(t *testing.T) {
	t.Parallel()
	for _, p := range []api.Parcel{
		parcel(200, 200, 0), parcel(200, 200, 1), parcel(300, 200, 0), parcel(300, 200, 1), parcel(290, 80, 0), parcel(150, 0, 0), parcel(70, 70, 0), parcel(150, 1, 1),
	} {
		l := cut(p)
		fatalIf(t, len(l) > 6, "%d segments", len(l))
		orders(len(l), func(order []int) {
			b := newBrought(t, p)
			for _, i := range order {
				b.comes(t, l[i])
			}
			fatalIf(t, b.Whole() != (p.Red > 0), "%v: %v", p, shows(b.Import))
			for double := range len(l) {
				b := newBrought(t, p)
				for n, i := range order {
					b.comes(t, l[i])
					if n >= double {
						b.comes(t, l[order[n-double]])
					}
				}
				for i := range l {
					b.comes(t, l[i])
				}
				fatalIf(t, b.Whole() != (p.Red > 0), "%v: %v", p, shows(b.Import))
			}
		})
	}
}

// Likewise with pieces that are cut again out of what is missing, by chance.
func TestP1310CutAgain(t *testing.T) {
	t.Parallel()
	for seed := range uint64(300) {
		draw := rand.New(rand.NewPCG(seed, 1310))
		size := 1 + draw.IntN(1500)
		p := parcel(size, 1+draw.IntN(size), draw.IntN(4))
		b := newBrought(t, p)
		l := cut(p)
		check := 1000
		for !b.Whole() {
			draw.Shuffle(len(l), func(i, k int) { l[i], l[k] = l[k], l[i] })
			for _, x := range l[:draw.IntN(len(l)+1)] {
				for _, r := range b.comes(t, x).Send {
					if draw.IntN(2) == 0 {
						b.does(t, sends(r.Report))
					}
				}
			}
			gaps, _ := report.Missing(b.Have(), 0, p.Red)
			if len(gaps) == 0 || draw.IntN(3) == 0 {
				continue
			}
			check++
			pieces, e := blocks.Again(b.m.s, p, gaps, check, draw.IntN(110))
			fatalIf(t, e != ok, "%v", e)
			for _, x := range pieces {
				l = append(l, b.m.seg(x.Type, x.From, x.To, x.Check, x.Report))
			}
		}
		fatalIf(t, b.whole != 1, "Whole was told %d times", b.whole)
	}
}

// wire lies between an export and an import: it brings data to the one, reports and what acknowledges them to the other.
type wire struct {
	*brought
	x         *export.Export
	lost      func() bool
	draw      *rand.Rand
	out, back []api.Segment // what waits at the export and at the import
	underway  []api.Segment
	checks    []int // timers that run
	serials   []int
	done      bool
	over      bool
}

func remove(l []int, some ...int) []int {
	return slices.DeleteFunc(l, func(n int) bool { return slices.Contains(some, n) })
}

// exports does what the export says.
func (w *wire) exports(m api.Moves) {
	w.checks = append(remove(w.checks, append(m.Stop, m.Start...)...), m.Start...)
	w.out = append(w.out, m.Send...)
	w.over = w.over || m.Over
	if m.Done {
		w.done = true
		w.exports(w.x.Finish())
	}
}

// imports does what the import says.
func (w *wire) imports(m api.Moves) {
	w.serials = append(remove(w.serials, append(m.Stop, m.Start...)...), m.Start...)
	w.back = append(w.back, m.Send...)
	w.over = w.over || m.Over
}

func (w *wire) goes(x api.Segment) {
	if !w.lost() {
		w.underway = append(w.underway, x)
	}
}

// arrives brings one of those that are under way to where it is going.
func (w *wire) arrives(t *testing.T, x api.Segment) {
	switch x.Type {
	case api.ReportType:
		r, e := report.Of(x)
		fatalIf(t, e != ok, "%v: %v", x, e)
		w.exports(w.x.Report(r))
		w.goes(api.Segment{Type: api.AckType, Session: x.Session, Report: x.Report})
		came := append(slices.Clone(w.m.came), make([]bool, w.p.Red)...)
		for _, s := range w.x.Have() { // P13.11
			fatalIf(t, slices.Contains(came[s.From:s.To], false), "the export believes too much: %v", s)
		}
	case api.AckType:
		w.imports(w.does(t, acks(x.Report)))
	default:
		w.imports(w.comes(t, x))
	}
}

// step does one thing; it tells whether there was anything to do.
func (w *wire) step(t *testing.T) bool {
	var can []func()
	if len(w.out) > 0 {
		can = append(can, func() {
			x := w.out[0]
			w.out = w.out[1:]
			w.exports(w.x.Sent(x))
			w.goes(x)
		})
	}
	if len(w.back) > 0 {
		can = append(can, func() {
			x := w.back[0]
			w.back = w.back[1:]
			w.imports(w.does(t, sends(x.Report)))
			w.goes(x)
		})
	}
	for i := range w.underway {
		can = append(can, func() {
			x := w.underway[i]
			if w.draw.IntN(8) != 0 { // else it comes once more
				w.underway = slices.Delete(w.underway, i, i+1)
			}
			w.arrives(t, x)
		})
	}
	if len(can) == 0 { // all is quiet: what is awaited is late
		for _, check := range w.checks {
			can = append(can, func() { w.checks = remove(w.checks, check); w.exports(w.x.Late(check)) })
		}
		for _, serial := range w.serials {
			can = append(can, func() { w.serials = remove(w.serials, serial); w.imports(w.does(t, lates(serial))) })
		}
	}
	if len(can) == 0 {
		return false
	}
	can[w.draw.IntN(len(can))]()
	return true
}

func newWire(t *testing.T, draw *rand.Rand, lost func() bool, retry int) *wire {
	size := 1 + draw.IntN(900)
	p := parcel(size, 1+draw.IntN(size), draw.IntN(4))
	w := &wire{brought: newBrought(t, p), lost: lost, draw: draw}
	w.m.r.Retry = retry
	w.Import, _ = w.m.open()
	x, m, e := export.Open(w.m.s, p, wholeBlock[:size], api.Rules{Retry: retry, Cycles: 1000}, 0, false)
	fatalIf(t, e != ok, "%v", e)
	w.x = x
	w.exports(m)
	return w
}

func (w *wire) runs(t *testing.T) {
	for n := 0; !w.over && w.step(t); n++ {
		fatalIf(t, n > 200000, "it does not end")
	}
}

// If fewer are lost than are sent again, the red part arrives, no report is awaited any more, and it is closed, if its end is known.
func TestP1311Arrives(t *testing.T) {
	t.Parallel()
	for seed := range uint64(300) {
		draw := rand.New(rand.NewPCG(seed, 1311))
		retry := 1 + draw.IntN(30)
		left, odds := draw.IntN(retry), 1+draw.IntN(5)
		w := newWire(t, draw, func() bool {
			if left == 0 || draw.IntN(odds) != 0 {
				return false
			}
			left--
			return true
		}, retry)
		w.runs(t)
		fatalIf(t, w.over || !w.done || !w.Whole() || w.Waits() != 0, "seed %d: %v, Done %v, %v", seed, w.over, w.done, shows(w.Import))
		fatalIf(t, w.Closed() != (w.m.size > 0), "seed %d: Closed %v, Size %d", seed, w.Closed(), w.m.size)
	}
}

// Whatever is lost: who believes the reports never believes too much, and it ends.
func TestP1311WhateverIsLost(t *testing.T) {
	t.Parallel()
	over, done := 0, 0
	for seed := range uint64(600) {
		draw := rand.New(rand.NewPCG(seed, 1312))
		odds := draw.IntN(10)
		w := newWire(t, draw, func() bool { return draw.IntN(10) < odds }, 1+draw.IntN(4))
		w.runs(t)
		fatalIf(t, w.done && !w.Whole(), "seed %d: Done, and not whole", seed)
		if w.over {
			over++
		}
		if w.done {
			done++
		}
	}
	fatalIf(t, over < 50 || done < 50, "Over for %d times, Done for %d", over, done)
}

// drawnOpening is some opening that can be.
func drawnOpening(draw *rand.Rand) opening {
	o := usual().rules(1+draw.IntN(3), 1+draw.IntN(4))
	switch draw.IntN(3) {
	case 0:
		o = o.link(80 + draw.IntN(200)).from(draw.IntN(top/2 + 1))
	case 1:
		o.s = api.Session{Origin: 1 + draw.IntN(top), Number: 1 + draw.IntN(top-1)}
		o.service = draw.IntN(top)
	}
	return o
}

// drawnBoth is some import, new or by what a journal had.
func drawnBoth(t *testing.T, draw *rand.Rand, o opening, reach int) *both {
	if draw.IntN(3) > 0 {
		return begin(t, o)
	}
	var x api.Incoming
	for at := draw.IntN(6); at < reach && draw.IntN(5) > 0; at += 1 + draw.IntN(5) {
		to := at + 1 + draw.IntN(9)
		x.Have = append(x.Have, span(at, to))
		at = to
	}
	last := 0
	if len(x.Have) > 0 {
		last = x.Have[len(x.Have)-1].To
	}
	x.Data = make([]byte, last)
	for i := range x.Data {
		x.Data[i] = byte(draw.IntN(3))
	}
	switch draw.IntN(4) {
	case 0:
		x.Red = last + draw.IntN(9)
	case 1:
		x.Size = last + draw.IntN(9)
	case 2:
		x.Red = last + draw.IntN(9)
		x.Size = x.Red + draw.IntN(9)
	}
	if len(x.Have) == 1 && x.Have[0].From == 0 && draw.IntN(2) == 0 {
		x.Red, x.Size, x.Delivered, x.Heard, x.Data = last, 0, true, true, nil
	}
	b, _ := again(t, o, x)
	return b
}

// drawnCall is some call: segments that often fit to a block with a red part of half the reach, serials that often are of a report.
func drawnCall(draw *rand.Rand, o opening, reach int) call {
	serial := o.base + draw.IntN(12)
	switch n := draw.IntN(100); {
	case n < 35:
		from := draw.IntN(reach)
		to := min(reach, from+1+draw.IntN(reach/2+1))
		kind := []int{api.RedPlain, api.RedPlain, api.RedCheck, api.RedCheck, api.RedEnd, api.RedLast, api.GreenPlain, api.GreenLast}[draw.IntN(8)]
		half := max(1, reach/2)
		if kind < api.GreenPlain && draw.IntN(8) > 0 {
			from = draw.IntN(half)
			to = min(half, from+1+draw.IntN(half))
		}
		if kind == api.RedEnd && draw.IntN(8) > 0 {
			to = half
		}
		if kind >= api.GreenPlain && draw.IntN(8) > 0 {
			from = min(reach-1, half+draw.IntN(reach))
			to = reach
		}
		x := o.seg(kind, from, max(to, from+1))
		if draw.IntN(9) == 0 {
			x.Data = slices.Clone(x.Data)
			x.Data[0] ^= 1
		}
		if isCheck(x) {
			x.Check = 1 + draw.IntN(12)
			x.Report = o.base + draw.IntN(12)
		}
		return takes(x)
	case n < 65:
		return sends(serial)
	case n < 92:
		return lates(serial)
	case n < 99:
		return acks(serial)
	}
	return drops()
}

// Long rows of calls by chance, against the model: P13.11 and P13.12 are asked behind each.
func TestP1312LongRows(t *testing.T) {
	t.Parallel()
	overs := map[int]int{}
	for seed := range uint64(3000) {
		draw := rand.New(rand.NewPCG(seed, 13))
		o := drawnOpening(draw)
		reach := 2 + draw.IntN(60)
		b := drawnBoth(t, draw, o, reach)
		for range 80 {
			if m := b.does(t, drawnCall(draw, o, reach)); m.Over {
				overs[m.Why]++
			}
		}
	}
	fatalIf(t, overs[api.ByRetry] < 100 || overs[api.Miscolored] < 100 || overs[api.ByCycles] < 100, "Over: %v", overs)
}

// What is Over might as well not have been called: without such calls all answers are the same.
func TestP1312AsIfNotCalled(t *testing.T) {
	t.Parallel()
	for seed := range uint64(1500) {
		draw := rand.New(rand.NewPCG(seed, 1300))
		o := drawnOpening(draw)
		reach := 2 + draw.IntN(40)
		one, _ := o.open()
		two, _ := o.open()
		for range 80 {
			c := drawnCall(draw, o, reach)
			m, e := c.calls(real{one})
			if m.Over {
				continue
			}
			n, f := c.calls(real{two})
			fatalIf(t, !same(m, n) || e != f || !shows(one).same(shows(two)), "seed %d: %v: %v, not %v", seed, c, m, n)
		}
	}
}

// Each report goes out again by Late for Retry times at most, and none is made by a checkpoint that is met again.
func TestP1313(t *testing.T) {
	t.Parallel()
	for seed := range uint64(1000) {
		draw := rand.New(rand.NewPCG(seed, 1313))
		o := drawnOpening(draw)
		reach := 2 + draw.IntN(60)
		m, _ := o.open()
		late, asked, greatest := map[int]int{}, map[int]int{}, o.base
		for range 100 {
			c := drawnCall(draw, o, reach)
			got, _ := c.calls(real{m})
			for _, r := range got.Send {
				switch {
				case c.do == doLate:
					late[r.Report]++
					fatalIf(t, late[r.Report] > o.r.Retry || r.Report > greatest, "%v: %v", c, r)
				case r.Report > greatest:
					fatalIf(t, asked[c.x.Check] > 0 || r.Report != greatest+1 || r.Check != c.x.Check, "%v: %v", c, r)
					greatest++
				default:
					fatalIf(t, asked[c.x.Check] == 0 || r.Check != c.x.Check, "%v: %v", c, r)
				}
			}
			if c.do == doTake && len(got.Send) > 0 {
				asked[c.x.Check]++
			}
		}
	}
}

// Two imports side by side, of one session and of two: what is done with the one is nothing to the other.
func TestP139SideBySide(t *testing.T) {
	t.Parallel()
	for seed := range uint64(500) {
		draw := rand.New(rand.NewPCG(seed, 139))
		o := drawnOpening(draw)
		p := o
		if draw.IntN(2) == 0 {
			p = drawnOpening(draw)
		}
		two := []*both{drawnBoth(t, draw, o, 30), drawnBoth(t, draw, p, 30)}
		for range 80 {
			i := draw.IntN(2)
			two[i].does(t, drawnCall(draw, two[i].m.opening, 30))
			two[1-i].mustLook(t)
		}
	}
}
