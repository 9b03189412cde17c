package imports_test

import (
	"testing"

	"lantern/api"
)

// stranger is a segment that is not the import's, by a name.
type stranger struct {
	name string
	x    api.Segment
}

// strangers are segments of which Look and Take say ErrArg.
func strangers(o opening) (l []stranger) {
	red, check, green := o.seg(api.RedPlain, 0, 10), o.seg(api.RedCheck, 0, 10, 1), o.seg(api.GreenLast, 10, 20)
	add := func(name string, x api.Segment, do func(*api.Segment)) {
		do(&x)
		l = append(l, stranger{name, x})
	}
	for _, x := range []api.Segment{red, check, green} {
		add("another origin", x, func(x *api.Segment) { x.Session.Origin++ })
		add("another number", x, func(x *api.Segment) { x.Session.Number++ })
		add("a number below", x, func(x *api.Segment) { x.Session.Number-- })
		add("no session", x, func(x *api.Segment) { x.Session = api.Session{} })
		add("another service", x, func(x *api.Segment) { x.Service++ })
		add("no service", x, func(x *api.Segment) { x.Service-- })
		add("a service below 0", x, func(x *api.Segment) { x.Service = -1 })
		add("no data", x, func(x *api.Segment) { x.Data = nil })
		add("an offset below 0", x, func(x *api.Segment) { x.Offset = -1 })
		add("the least offset", x, func(x *api.Segment) { x.Offset = minInt })
		add("an end above MaxBlock", x, func(x *api.Segment) { x.Offset = most - 9 })
		add("the greatest offset", x, func(x *api.Segment) { x.Offset = maxInt })
		add("more bytes than a block has", x, func(x *api.Segment) { x.Data = make([]byte, most+1) })
		add("more bytes than a segment has", x, func(x *api.Segment) { x.Data = make([]byte, 8192) })
		add("a reason", x, func(x *api.Segment) { x.Reason = 1 })
		add("bounds", x, func(x *api.Segment) { x.Upper = 5 })
		add("claims", x, func(x *api.Segment) { x.Claims = spans(0, 1) })
		add("too many extensions", x, func(x *api.Segment) { x.Head = make([]api.Ext, 16) })
		add("a tag that is none", x, func(x *api.Segment) { x.Tail = []api.Ext{{Tag: 256}} })
	}
	add("a check number of what is no checkpoint", red, func(x *api.Segment) { x.Check = 1 })
	add("a report number of what is no checkpoint", red, func(x *api.Segment) { x.Report = 1 })
	add("a check number of green", green, func(x *api.Segment) { x.Check = 1 })
	add("no check number", check, func(x *api.Segment) { x.Check = 0 })
	add("a check number below 0", check, func(x *api.Segment) { x.Check = -1 })
	add("a check number above the limit", check, func(x *api.Segment) { x.Check = top + 1 })
	add("a report number below 0", check, func(x *api.Segment) { x.Report = -1 })
	add("a report number above the limit", check, func(x *api.Segment) { x.Report = top + 1 })
	for _, kind := range []int{minInt, -1, 5, 6, 10, 11, 16, 19, maxInt} {
		add("a type that is none", red, func(x *api.Segment) { x.Type = kind })
	}
	add("a report", api.Segment{Session: o.s}, func(x *api.Segment) { x.Type, x.Report, x.Upper, x.Claims = api.ReportType, 101, 9, spans(0, 9) })
	add("an acknowledgement", api.Segment{Session: o.s}, func(x *api.Segment) { x.Type, x.Report = api.AckType, 101 })
	for _, kind := range []int{api.CancelOut, api.CancelOutOk, api.CancelIn, api.CancelInOk} {
		add("a cancellation", api.Segment{Session: o.s}, func(x *api.Segment) { x.Type = kind })
	}
	return l
}

// What is not the import's is ErrArg, and changes nothing, whatever came ahead; it goes ahead of each verdict.
func TestP133NotOfTheImport(t *testing.T) {
	for _, o := range []opening{usual(), {s: api.Session{Origin: 1, Number: 2}, mtu: 80, r: api.Rules{Retry: 1, Cycles: 1}}} {
		fresh := begin(t, o)
		full := begin(t, o)
		full.take(t, api.RedLast, 0, 5, 1)
		full.take(t, api.RedCheck, 0, 5, 2)
		for _, b := range []*both{fresh, full} {
			before := shows(b.Import)
			for _, x := range strangers(o) {
				v, e := b.Look(x.x)
				fatalIf(t, e != 1 || v != (api.Verdict{}), "%s: Look: %v %v", x.name, v, e)
				m, e := b.Take(x.x)
				fatalIf(t, e != 1 || !same(m, api.Moves{}), "%s: Take: %v %v", x.name, m, e)
				fatalIf(t, !shows(b.Import).same(before), "%s: %v, not %v", x.name, shows(b.Import), before)
				b.does(t, takes(x.x))
			}
		}
	}
	// With the service 0, as others have none, and a session of which no number is 0: a segment of another type is no data even so.
	o := usual()
	o.service = 0
	b := begin(t, o)
	_, e := b.Look(api.Segment{Type: api.AckType, Session: o.s, Report: 1})
	fatalIf(t, e != 1, "an acknowledgement: %v", e)
}

// Extensions say nothing, and are no fault.
func TestP133Extensions(t *testing.T) {
	b := begin(t, usual())
	x := b.m.seg(api.RedEnd, 0, 10, 1)
	x.Head, x.Tail = []api.Ext{{Tag: 1, Data: []byte{1, 2}}}, make([]api.Ext, 15)
	b.judged(t, x, api.Verdict{Fresh: 10, Red: 10, Whole: true})
	b.wants(t, takes(x), brings(b.tells(101, 1, 0, 10, 0, 10)))
	y := b.m.seg(api.GreenLast, 10, 12)
	y.Tail = []api.Ext{{Tag: 255}}
	b.judged(t, y, api.Verdict{Red: 10, Size: 12})
	b.wants(t, takes(y), api.Moves{})
}

// A segment of all the bytes that it may have, at both ends of what a block may have.
func TestP133Greatest(t *testing.T) {
	for _, at := range []int{0, most - 8000} {
		b := begin(t, usual())
		b.judged(t, b.m.seg(api.RedPlain, at, at+8000), api.Verdict{Fresh: 8000})
		b.take(t, api.RedLast, at, at+8000, top, top)
		b.judged(t, b.m.seg(api.RedLast, at, at+8000, top, top), api.Verdict{Red: at + 8000, Size: at + 8000})
	}
	b := begin(t, usual())
	b.take(t, api.GreenLast, most-1, most)
	b.take(t, api.RedEnd, most-2, most-1, 1)
	fatalIf(t, b.Red() != most-1, "Red: %d", b.Red())
}

// setting is what came, and what of it is Wrong or not.
type setting struct {
	name  string
	came  []api.Segment
	wrong []api.Segment
	fine  []api.Segment
}

func settings() []setting {
	s := usual().seg
	return []setting{
		{"Red is known",
			[]api.Segment{s(api.RedEnd, 10, 20, 1)},
			[]api.Segment{
				s(api.RedPlain, 19, 21), s(api.RedPlain, 20, 21), s(api.RedCheck, 0, 21, 9), s(api.RedPlain, 30, 40), // above Red
				s(api.RedEnd, 10, 19, 9), s(api.RedEnd, 10, 21, 9), s(api.RedLast, 0, 19, 9), s(api.RedLast, 20, 21, 9), // its end at another place
				s(api.GreenPlain, 19, 30), s(api.GreenLast, 0, 30), s(api.GreenPlain, 0, 1), s(api.GreenLast, 19, 20), // green below Red
			},
			[]api.Segment{
				s(api.RedPlain, 0, 20), s(api.RedPlain, 19, 20), s(api.RedCheck, 0, 20, 9), s(api.RedEnd, 0, 20, 9), s(api.RedEnd, 10, 20, 1),
				s(api.RedLast, 5, 20, 9), s(api.GreenPlain, 20, 21), s(api.GreenLast, 20, 21), s(api.GreenPlain, 40, 50),
			}},
		{"red bytes came, and Red is not known",
			[]api.Segment{s(api.RedPlain, 3, 5), s(api.RedCheck, 10, 20, 1)},
			[]api.Segment{
				s(api.RedEnd, 0, 19, 9), s(api.RedLast, 10, 19, 9), s(api.RedEnd, 0, 1, 9), // an end of red below the last byte's
				s(api.GreenPlain, 19, 30), s(api.GreenLast, 5, 20), s(api.GreenPlain, 0, 1), // green below it
			},
			[]api.Segment{
				s(api.RedPlain, 0, 30), s(api.RedPlain, 4, 6), s(api.RedEnd, 19, 20, 9), s(api.RedEnd, 0, 20, 9), s(api.RedLast, 19, 20, 9), s(api.RedLast, 30, 31, 9),
				s(api.GreenPlain, 20, 21), s(api.GreenLast, 20, 21), s(api.GreenPlain, 30, 40),
			}},
		{"green bytes came",
			[]api.Segment{s(api.GreenPlain, 60, 70), s(api.GreenPlain, 50, 55)},
			[]api.Segment{
				s(api.RedPlain, 45, 51), s(api.RedCheck, 0, 51, 9), s(api.RedEnd, 50, 51, 9), s(api.RedPlain, 60, 61), s(api.RedPlain, 80, 81), // above the least green offset
				s(api.RedLast, 40, 50, 9), s(api.RedLast, 0, 49, 9), // an end of the block below the greatest green end
				s(api.GreenLast, 50, 69), s(api.GreenLast, 20, 30), s(api.GreenLast, 55, 60),
			},
			[]api.Segment{
				s(api.RedPlain, 45, 50), s(api.RedEnd, 40, 50, 9), s(api.RedEnd, 40, 49, 9), s(api.RedCheck, 0, 1, 9),
				s(api.GreenPlain, 0, 1), s(api.GreenPlain, 40, 51), s(api.GreenPlain, 65, 90), s(api.GreenLast, 65, 70), s(api.GreenLast, 0, 71), s(api.GreenLast, 70, 80),
			}},
		{"a green byte at 0 came",
			[]api.Segment{s(api.GreenPlain, 0, 2)},
			[]api.Segment{s(api.RedPlain, 0, 1), s(api.RedPlain, 5, 6), s(api.RedEnd, 2, 3, 9), s(api.GreenLast, 0, 1)},
			[]api.Segment{s(api.GreenPlain, 0, 1), s(api.GreenLast, 0, 2), s(api.GreenLast, 5, 6)}},
		{"Size is known, of green",
			[]api.Segment{s(api.GreenLast, 50, 60)},
			[]api.Segment{
				s(api.GreenPlain, 60, 61), s(api.GreenPlain, 50, 61), s(api.GreenPlain, 70, 80), s(api.RedPlain, 60, 61), // above Size
				s(api.GreenLast, 50, 59), s(api.GreenLast, 60, 61), s(api.GreenLast, 50, 61), s(api.RedLast, 40, 60, 9), s(api.RedLast, 40, 50, 9), // another end
			},
			[]api.Segment{s(api.GreenPlain, 59, 60), s(api.GreenPlain, 0, 60), s(api.GreenLast, 59, 60), s(api.GreenLast, 0, 60), s(api.RedPlain, 0, 50), s(api.RedEnd, 49, 50, 9)}},
		{"Size is known, of red",
			[]api.Segment{s(api.RedLast, 10, 20, 1)},
			[]api.Segment{
				s(api.GreenPlain, 20, 21), s(api.GreenLast, 20, 21), s(api.GreenPlain, 10, 20), s(api.GreenLast, 10, 20), s(api.GreenPlain, 30, 31),
				s(api.RedPlain, 20, 21), s(api.RedLast, 10, 19, 9), s(api.RedLast, 20, 21, 9), s(api.RedEnd, 0, 19, 9),
			},
			[]api.Segment{s(api.RedPlain, 0, 20), s(api.RedCheck, 0, 20, 9), s(api.RedEnd, 0, 20, 9), s(api.RedLast, 19, 20, 9), s(api.RedLast, 0, 20, 9)}},
		{"nothing came",
			nil,
			nil,
			[]api.Segment{
				s(api.RedPlain, 0, 1), s(api.RedPlain, 7, 9), s(api.RedCheck, 7, 9, 9), s(api.RedEnd, 7, 9, 9), s(api.RedLast, 7, 9, 9), s(api.RedLast, 0, 1, 9),
				s(api.GreenPlain, 0, 1), s(api.GreenPlain, 7, 9), s(api.GreenLast, 0, 1), s(api.GreenLast, 7, 9),
			}},
	}
}

// Each thing by which a segment is Wrong, and its neighbours that are not; Take of the one is Over, and nothing has changed.
func TestP133Wrong(t *testing.T) {
	for _, x := range settings() {
		b := begin(t, usual().rules(1, 1000))
		for _, s := range x.came {
			b.does(t, takes(s))
		}
		for _, s := range x.wrong {
			b.judged(t, s, api.Verdict{Wrong: true})
			b.wants(t, takes(s), overFor(api.Miscolored))
		}
		for _, s := range x.fine {
			v, e := b.Look(s)
			fatalIf(t, e != ok || v.Wrong, "%s: %v of type %d, %d to %d", x.name, v, s.Type, s.Offset, s.Offset+len(s.Data))
			one := begin(t, usual().rules(1, 1000))
			for _, s := range x.came {
				one.does(t, takes(s))
			}
			got := one.does(t, takes(s))
			fatalIf(t, got.Over, "%s: %v", x.name, got)
		}
	}
}

// What was refused as Wrong leaves no trace: what it would have told is not known.
func TestP134WrongIsForgotten(t *testing.T) {
	b := begin(t, usual())
	b.take(t, api.RedPlain, 10, 20)
	b.wants(t, takes(b.m.seg(api.RedLast, 0, 10, 1)), overFor(api.Miscolored))
	b.wants(t, takes(b.m.seg(api.GreenLast, 15, 30)), overFor(api.Miscolored))
	fatalIf(t, b.Red() != 0, "Red: %d", b.Red())
	b.judged(t, b.m.seg(api.RedEnd, 5, 40, 1), api.Verdict{Fresh: 25, Red: 40})
	b.judged(t, b.m.seg(api.GreenLast, 20, 40), api.Verdict{Size: 40})
}

// every goes through all data segments of a block of so many bytes.
func every(size int, visit func(kind, from, to int)) {
	for from := range size {
		for to := from + 1; to <= size; to++ {
			for _, kind := range []int{api.RedPlain, api.RedCheck, api.RedEnd, api.RedLast, api.GreenPlain, api.GreenLast} {
				visit(kind, from, to)
			}
		}
	}
}

// ofBlock tells whether a segment can be one of a block of that size with that red part.
func ofBlock(x api.Segment, red, size int) bool {
	end := x.Offset + len(x.Data)
	switch x.Type {
	case api.RedPlain, api.RedCheck:
		return end <= red
	case api.RedEnd:
		return end == red
	case api.RedLast:
		return end == red && end == size
	case api.GreenPlain:
		return x.Offset >= red && end <= size
	}
	return x.Offset >= red && end == size
}

// Wrong is just what can be of no block with what came: every three segments of a block of few bytes are held against every block.
func TestP133WrongIsOfNoBlock(t *testing.T) {
	t.Parallel()
	const size = 4
	o := usual().rules(1, 1000)
	var l []api.Segment
	every(size, func(kind, from, to int) {
		x := o.seg(kind, from, to)
		if isCheck(x) {
			x.Check = len(l) + 1
		}
		l = append(l, x)
	})
	can := func(some ...api.Segment) bool {
		for n := range size + 2 {
			for red := range n + 1 {
				all := true
				for _, x := range some {
					all = all && ofBlock(x, red, n)
				}
				if all {
					return true
				}
			}
		}
		return false
	}
	for _, a := range l {
		for _, b := range l {
			if !can(a, b) {
				continue
			}
			m, _ := o.open()
			m.Take(a)
			m.Take(b)
			for _, c := range l {
				v, e := m.Look(c)
				fatalIf(t, e != ok || v.Wrong == can(a, b, c), "%v, %v, %v: %+v %v", a, b, c, v, e)
			}
		}
	}
}

// Big: as many spans as a set has can be, one more cannot, as long as it joins none; of green it is never.
func TestP133Big(t *testing.T) {
	for _, drop := range []bool{false, true} {
		b, _ := again(t, usual().link(4096), api.Incoming{Have: ones(0, 1999), Data: dataOf(ones(0, 1999))})
		if drop {
			b.does(t, drops())
		}
		b.judged(t, b.m.seg(api.RedPlain, 5000, 5001), api.Verdict{Fresh: 1})
		b.take(t, api.RedPlain, 5000, 5001)
		big := api.Verdict{Big: true}
		for _, x := range []api.Segment{
			b.m.seg(api.RedPlain, 5002, 5003), b.m.seg(api.RedCheck, 4000, 4100, 1), b.m.seg(api.RedEnd, 6000, 6010, 1), b.m.seg(api.RedLast, 65000, most, 1),
		} {
			b.judged(t, x, big)
			b.wants(t, takes(x), overFor(api.BySystem))
		}
		fatalIf(t, b.Red() != 0 || len(b.Have()) != 2000, "it changed: %v", b.Red())
		b.judged(t, b.m.seg(api.GreenLast, 6000, 6010), api.Verdict{Size: 6010})
		b.judged(t, b.m.seg(api.RedPlain, 0, 1), api.Verdict{})
		b.judged(t, b.m.seg(api.RedPlain, 5001, 5003), api.Verdict{Fresh: 2})
		b.judged(t, b.m.seg(api.RedEnd, 4999, 5001, 1), api.Verdict{Fresh: 1, Red: 5001})
		b.judged(t, b.m.seg(api.RedPlain, 1, 2), api.Verdict{Fresh: 1})
		b.take(t, api.RedPlain, 1, 2)
		b.judged(t, b.m.seg(api.RedPlain, 5002, 5003), api.Verdict{Fresh: 1})
	}
}

// Wrong goes ahead of Big, and Big ahead of Cycle.
func TestP133Order(t *testing.T) {
	b, _ := again(t, usual().link(4096), api.Incoming{Have: ones(0, 2000), Data: dataOf(ones(0, 2000)), Red: 5000})
	b.judged(t, b.m.seg(api.RedPlain, 5001, 5002), api.Verdict{Wrong: true})
	b.judged(t, b.m.seg(api.RedEnd, 4500, 4600, 1), api.Verdict{Wrong: true})
	b.judged(t, b.m.seg(api.RedEnd, 4500, 5000, 1), api.Verdict{Big: true})
	b.take(t, api.RedCheck, 0, 1, 1)
	b.judged(t, b.m.seg(api.RedCheck, 0, 1, 2), api.Verdict{Cycle: true})
	b.judged(t, b.m.seg(api.RedLast, 0, 1, 2), api.Verdict{Wrong: true})
	b.judged(t, b.m.seg(api.RedCheck, 4998, 4999, 2), api.Verdict{Big: true})
}

// Fresh and Clash are the buffer's: what came first stays.
func TestP133FreshAndClash(t *testing.T) {
	b := begin(t, usual())
	put := func(at int, data ...byte) api.Segment {
		return api.Segment{Type: api.RedPlain, Session: b.m.s, Service: 7, Offset: at, Data: data}
	}
	b.does(t, takes(put(3, 1, 2, 3)))
	b.judged(t, put(4, 9, 3, 4), api.Verdict{Fresh: 1, Clash: 1})
	b.judged(t, put(2, 9, 9, 9, 9, 9), api.Verdict{Fresh: 2, Clash: 3})
	b.judged(t, put(3, 1, 2, 3), api.Verdict{})
	b.judged(t, put(6, 1, 2, 3), api.Verdict{Fresh: 3})
	b.does(t, takes(put(4, 9, 3, 4)))
	end := put(0, 7, 7, 7, 7, 7, 7, 7, 7)
	end.Type, end.Check = api.RedLast, 1
	b.judged(t, end, api.Verdict{Fresh: 4, Clash: 4, Red: 8, Size: 8, Whole: true})
	b.does(t, takes(end))
	fatalIf(t, string(b.Bytes()) != "\x07\x07\x07\x01\x02\x03\x04\x07", "%v", b.Bytes())
	// Of green there is neither, whatever came.
	g := begin(t, usual())
	for range 2 {
		g.judged(t, api.Segment{Type: api.GreenPlain, Session: b.m.s, Service: 7, Offset: 3, Data: []byte{1, 2}}, api.Verdict{})
		g.does(t, takes(api.Segment{Type: api.GreenPlain, Session: b.m.s, Service: 7, Offset: 3, Data: []byte{8, 9}}))
	}
	fatalIf(t, g.Held() != 0 || len(g.Have()) != 0, "%v", shows(g.Import))
	// Behind Drop nothing clashes any more.
	b.does(t, drops())
	b.judged(t, end, api.Verdict{Red: 8, Size: 8})
}

// Red and Size are known from the segment on that ends them, and stay.
func TestP133RedAndSize(t *testing.T) {
	b := begin(t, usual().rules(1, 10))
	b.judged(t, b.m.seg(api.RedPlain, 0, 10), api.Verdict{Fresh: 10})
	b.judged(t, b.m.seg(api.RedCheck, 0, 10, 1), api.Verdict{Fresh: 10})
	b.judged(t, b.m.seg(api.RedEnd, 0, 10, 1), api.Verdict{Fresh: 10, Red: 10, Whole: true})
	b.judged(t, b.m.seg(api.RedLast, 0, 10, 1), api.Verdict{Fresh: 10, Red: 10, Size: 10, Whole: true})
	b.judged(t, b.m.seg(api.GreenPlain, 0, 10), api.Verdict{})
	b.judged(t, b.m.seg(api.GreenLast, 0, 10), api.Verdict{Size: 10})
	b.take(t, api.RedEnd, 4, 10, 1)
	b.judged(t, b.m.seg(api.RedPlain, 0, 2), api.Verdict{Fresh: 2, Red: 10})
	b.judged(t, b.m.seg(api.GreenPlain, 12, 13), api.Verdict{Red: 10})
	b.take(t, api.GreenLast, 12, 14)
	b.judged(t, b.m.seg(api.RedPlain, 0, 2), api.Verdict{Fresh: 2, Red: 10, Size: 14})
	b.judged(t, b.m.seg(api.GreenPlain, 12, 13), api.Verdict{Red: 10, Size: 14})
	b.judged(t, b.m.seg(api.RedCheck, 0, 4, 2), api.Verdict{Fresh: 4, Red: 10, Size: 14, Whole: true})
	fatalIf(t, b.Red() != 10, "Red: %d", b.Red())
	// A segment that ends nothing does not make known what others leave open.
	g := begin(t, usual())
	g.take(t, api.RedPlain, 0, 10)
	g.take(t, api.GreenPlain, 10, 20)
	fatalIf(t, g.Red() != 0 || g.Whole(), "%v", shows(g.Import))
	g.judged(t, g.m.seg(api.RedPlain, 2, 5), api.Verdict{})
	g.judged(t, g.m.seg(api.RedCheck, 2, 10, 1), api.Verdict{Fresh: 0})
	g.judged(t, g.m.seg(api.RedEnd, 2, 10, 1), api.Verdict{Red: 10, Whole: true})
}

// Whole is told once: by the segment that brings the last byte, or the end behind all bytes.
func TestP133Whole(t *testing.T) {
	b := begin(t, usual().rules(1, 10))
	b.take(t, api.RedPlain, 0, 10)
	b.take(t, api.RedCheck, 10, 20, 1)
	b.judged(t, b.m.seg(api.RedEnd, 10, 20, 2), api.Verdict{Red: 20, Whole: true})
	b.take(t, api.RedEnd, 10, 20, 2)
	for _, x := range []api.Segment{b.m.seg(api.RedEnd, 10, 20, 2), b.m.seg(api.RedEnd, 0, 20, 3), b.m.seg(api.RedPlain, 0, 20)} {
		b.judged(t, x, api.Verdict{Red: 20})
	}
	b.judged(t, b.m.seg(api.GreenLast, 20, 30), api.Verdict{Red: 20, Size: 30})
	// Without a byte it is not, wherever that one is.
	for at := range 20 {
		b := begin(t, usual())
		for i := range 20 {
			if i != at {
				b.take(t, api.RedPlain, i, i+1)
			}
		}
		if at < 19 {
			b.judged(t, b.m.seg(api.RedEnd, 19, 20, 1), api.Verdict{Red: 20})
			b.take(t, api.RedEnd, 19, 20, 1)
			fatalIf(t, b.Whole() || len(b.Bytes()) != 0, "without %d it is whole", at)
			b.judged(t, b.m.seg(api.RedPlain, at, at+1), api.Verdict{Fresh: 1, Red: 20, Whole: true})
		} else {
			b.judged(t, b.m.seg(api.RedEnd, 19, 20, 1), api.Verdict{Fresh: 1, Red: 20, Whole: true})
		}
	}
}

// For Cycles checkpoints nothing new may come, with and without new bytes between; then it is Cycle, till something new comes.
func TestP133Cycle(t *testing.T) {
	for _, cycles := range []int{1, 2, 7, 1000} {
		b := begin(t, usual().rules(1, cycles))
		b.take(t, api.RedPlain, 0, 10)
		at, check := 10, 0
		ask := func() api.Segment {
			check++
			return b.m.seg(api.RedCheck, 0, 10, check)
		}
		// The first one brings the bytes that came ahead of it.
		b.does(t, takes(ask()))
		for i := range cycles {
			if i%3 == 1 {
				b.take(t, api.RedPlain, at, at+1)
				at++
				b.does(t, takes(ask()))
			}
			b.judged(t, b.m.seg(api.RedCheck, 0, 10, check+1), api.Verdict{})
			b.does(t, takes(ask()))
		}
		x := ask()
		for range 3 {
			b.judged(t, x, api.Verdict{Cycle: true})
			b.wants(t, takes(x), overFor(api.ByCycles))
		}
		// Those that were answered may be met again; and what is no checkpoint may come.
		b.judged(t, b.m.seg(api.RedCheck, 0, 10, check-1), api.Verdict{})
		b.judged(t, b.m.seg(api.RedPlain, 0, 10), api.Verdict{})
		b.judged(t, b.m.seg(api.GreenPlain, at, at+9), api.Verdict{})
		// One that brings a byte itself, or has one ahead of it, is answered.
		b.judged(t, b.m.seg(api.RedCheck, at, at+1, check), api.Verdict{Fresh: 1})
		b.take(t, api.RedCheck, at, at+1, check)
		b.judged(t, ask(), api.Verdict{Cycle: true})
		b.take(t, api.RedPlain, at+1, at+2)
		b.judged(t, b.m.seg(api.RedCheck, 0, 10, check), api.Verdict{})
		b.take(t, api.RedCheck, 0, 10, check)
		b.judged(t, ask(), api.Verdict{Cycle: true})
		b.judged(t, b.m.seg(api.RedEnd, 0, at+2, check), api.Verdict{Cycle: true})
	}
}

// Green bytes are not new, nor red ones that came; bytes that a checkpoint brings which is met again are.
func TestP133WhatIsNew(t *testing.T) {
	b := begin(t, usual())
	b.take(t, api.RedCheck, 0, 10, 1)
	b.take(t, api.RedCheck, 0, 10, 2)
	b.take(t, api.GreenPlain, 30, 40)
	b.take(t, api.RedPlain, 2, 8)
	b.take(t, api.RedCheck, 0, 10, 1)
	b.judged(t, b.m.seg(api.RedCheck, 0, 10, 3), api.Verdict{Cycle: true})
	b.wants(t, takes(b.m.seg(api.RedCheck, 9, 11, 1)), api.Moves{})
	b.judged(t, b.m.seg(api.RedCheck, 0, 10, 3), api.Verdict{})
	b.take(t, api.RedCheck, 0, 10, 3)
	b.judged(t, b.m.seg(api.RedCheck, 0, 10, 4), api.Verdict{Cycle: true})
	// Without any byte ahead, since Open: the first checkpoint always brings its own.
	n := begin(t, usual())
	n.judged(t, n.m.seg(api.RedCheck, 0, 1, 1), api.Verdict{Fresh: 1})
	n.take(t, api.RedCheck, 0, 1, 1)
	n.take(t, api.RedCheck, 0, 1, 2)
	n.judged(t, n.m.seg(api.RedCheck, 0, 1, 3), api.Verdict{Cycle: true})
}
