package imports_test

import (
	"testing"

	"lantern/api"
	"lantern/imports"
)

// change is something that is done to what Open and Back are given.
type change struct {
	name string
	do   func(*opening)
}

// beyond are the arguments that may not be, each next to its limits and far from them.
func beyond() []change {
	return []change{
		{"no origin", func(o *opening) { o.s.Origin = 0 }},
		{"an origin below 0", func(o *opening) { o.s.Origin = -1 }},
		{"the least origin", func(o *opening) { o.s.Origin = minInt }},
		{"an origin above the limit", func(o *opening) { o.s.Origin = top + 1 }},
		{"the greatest origin", func(o *opening) { o.s.Origin = maxInt }},
		{"no number", func(o *opening) { o.s.Number = 0 }},
		{"a number below 0", func(o *opening) { o.s.Number = -1 }},
		{"a number at MaxNum", func(o *opening) { o.s.Number = top }},
		{"the greatest number", func(o *opening) { o.s.Number = maxInt }},
		{"a service below 0", func(o *opening) { o.service = -1 }},
		{"the least service", func(o *opening) { o.service = minInt }},
		{"a service above the limit", func(o *opening) { o.service = top + 1 }},
		{"an mtu too small", func(o *opening) { o.mtu = 79 }},
		{"no mtu", func(o *opening) { o.mtu = 0 }},
		{"an mtu below 0", func(o *opening) { o.mtu = -80 }},
		{"an mtu too great", func(o *opening) { o.mtu = 4097 }},
		{"Retry 0", func(o *opening) { o.r.Retry = 0 }},
		{"Retry below 0", func(o *opening) { o.r.Retry = -1 }},
		{"Retry above the limit", func(o *opening) { o.r.Retry = 101 }},
		{"Cycles 0", func(o *opening) { o.r.Cycles = 0 }},
		{"Cycles below 0", func(o *opening) { o.r.Cycles = -1 }},
		{"Cycles above the limit", func(o *opening) { o.r.Cycles = 1001 }},
		{"a base below 0", func(o *opening) { o.base = -1 }},
		{"the least base", func(o *opening) { o.base = minInt }},
		{"a base above the limit", func(o *opening) { o.base = top/2 + 1 }},
		{"a base of MaxNum", func(o *opening) { o.base = top }},
		{"the greatest base", func(o *opening) { o.base = maxInt }},
	}
}

// within are the arguments at their limits.
func within() []change {
	return []change{
		{"as it is", func(*opening) {}},
		{"the least session", func(o *opening) { o.s = api.Session{Origin: 1, Number: 1} }},
		{"the greatest session", func(o *opening) { o.s = api.Session{Origin: top, Number: top - 1} }},
		{"the least service", func(o *opening) { o.service = 0 }},
		{"the greatest service", func(o *opening) { o.service = top }},
		{"the least mtu", func(o *opening) { o.mtu = 80 }},
		{"the greatest mtu", func(o *opening) { o.mtu = 4096 }},
		{"the least rules", func(o *opening) { o.r = api.Rules{Retry: 1, Cycles: 1} }},
		{"the greatest Retry", func(o *opening) { o.r.Retry = 100 }},
		{"the greatest Cycles", func(o *opening) { o.r.Cycles = 1000 }},
		{"the least base", func(o *opening) { o.base = 0 }},
		{"the greatest base", func(o *opening) { o.base = top / 2 }},
	}
}

// Each argument that may not be, and each two of them at once.
func TestP131Refuses(t *testing.T) {
	l := beyond()
	for i, a := range l {
		for _, b := range l[i:] {
			o := usual()
			a.do(&o)
			b.do(&o)
			x, e := o.open()
			fatalIf(t, e != 1 || x != nil, "%s, %s: %v %v", a.name, b.name, x, e)
		}
	}
}

// What is at a limit can be: nothing came to it, and it takes what comes; the first serial is one above the base.
func TestP131Limits(t *testing.T) {
	for _, a := range within() {
		for _, c := range within() {
			o := usual()
			a.do(&o)
			c.do(&o)
			b := begin(t, o)
			fatalIf(t, !shows(b.Import).same(shown{}), "%s: %v", a.name, shows(b.Import))
			got := b.take(t, api.RedLast, 0, 10, top, top)
			fatalIf(t, len(got.Send) != 1 || got.Send[0].Report != o.base+1, "%s: %v", a.name, got)
			b.wants(t, sends(o.base+1), starts(o.base+1))
			b.wants(t, acks(o.base+1), stops(o.base+1))
			fatalIf(t, !b.Closed(), "%s: it is not closed", a.name)
		}
	}
}

// What was asked of nothing: no report, no bytes.
func TestP131NothingCame(t *testing.T) {
	for _, base := range []int{0, 100, top / 2} {
		b := begin(t, usual().from(base))
		for _, serial := range []int{minInt, -1, 0, 1, base, base + 1, base + 2, top, maxInt} {
			b.wants(t, sends(serial), api.Moves{})
			b.wants(t, lates(serial), api.Moves{})
			b.wants(t, acks(serial), api.Moves{})
		}
		b.does(t, drops())
		fatalIf(t, !shows(b.Import).same(shown{}), "%v", shows(b.Import))
	}
}

// The chapter's table of examples.
func TestExamples(t *testing.T) {
	o := usual()
	b := begin(t, o)
	b.judged(t, o.seg(api.RedPlain, 0, 10), api.Verdict{Fresh: 10})
	end := o.seg(api.RedEnd, 10, 20, 1, 0)
	first := b.tells(101, 1, 0, 20, 10, 20)
	b.wants(t, takes(end), brings(first))
	fatalIf(t, b.Red() != 20, "Red: %d", b.Red())
	b.wants(t, takes(end), api.Moves{})
	b.wants(t, sends(101), starts(101))
	b.wants(t, takes(end), brings(first))
	b.wants(t, sends(101), starts(101))
	b.judged(t, o.seg(api.RedPlain, 15, 25), api.Verdict{Wrong: true})
	b.judged(t, o.seg(api.GreenPlain, 15, 25), api.Verdict{Wrong: true})
	b.wants(t, takes(o.seg(api.RedCheck, 0, 10, 2, 101)), brings(b.tells(102, 2, 0, 10, 0, 10)))
	fatalIf(t, !b.Whole(), "it is not whole")
	b.judged(t, o.seg(api.RedCheck, 0, 10, 3), api.Verdict{Red: 20})
	third := b.tells(103, 3, 0, 10, 0, 10)
	b.wants(t, takes(o.seg(api.RedCheck, 0, 10, 3)), brings(third))
	b.judged(t, o.seg(api.RedCheck, 0, 10, 4), api.Verdict{Cycle: true})
	b.wants(t, acks(101), stops(101))
	b.wants(t, acks(102), stops(102))
	fatalIf(t, b.Closed(), "closed, and Size is not known")
	b.wants(t, takes(o.seg(api.GreenLast, 20, 30)), api.Moves{})
	fatalIf(t, !b.Closed(), "not closed")
	for range 2 {
		b.wants(t, sends(103), starts(103))
		b.wants(t, lates(103), brings(third))
	}
	b.wants(t, sends(103), starts(103))
	b.wants(t, lates(103), overFor(api.ByRetry))
}

// The line "Errors": no other number is ever answered.
func TestErrors(t *testing.T) {
	told := map[api.Errno]int{}
	for _, x := range beyond() {
		o := usual()
		x.do(&o)
		_, e := o.open()
		told[e]++
		_, _, e = imports.Back(api.Incoming{Session: o.s, Service: o.service}, o.mtu, o.r, o.base)
		told[e]++
	}
	for _, x := range stuck() {
		_, _, e := imports.Back(x.x, 80, usual().r, 100)
		told[e]++
	}
	b := begin(t, usual())
	for _, x := range strangers(b.m.opening) {
		_, e := b.Look(x.x)
		told[e]++
		_, e = b.Take(x.x)
		told[e]++
	}
	fatalIf(t, api.ErrArg != 1 || len(told) != 1 || told[1] == 0, "errors: %v", told)
}
