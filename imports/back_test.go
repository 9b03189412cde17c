package imports_test

import (
	"slices"
	"testing"

	"lantern/api"
	"lantern/imports"
)

// journal is what a journal can have: bytes of the block in gaps, of a red part and a block of that length.
func journal(red, size int, ends ...int) api.Incoming {
	x := api.Incoming{Session: usual().s, Service: usual().service, Red: red, Size: size, Have: spans(ends...)}
	x.Data = dataOf(x.Have)
	return x
}

// dataOf are the block's bytes as far as the last one of a set, with noughts in the gaps.
func dataOf(l []api.Span) []byte {
	if len(l) == 0 {
		return nil
	}
	b := make([]byte, l[len(l)-1].To)
	for _, s := range l {
		copy(b[s.From:s.To], wholeBlock[s.From:])
	}
	return b
}

func delivered(x api.Incoming, heard bool) api.Incoming {
	x.Delivered, x.Heard = true, heard
	return x
}

func bare(x api.Incoming) api.Incoming { x.Data = nil; return x }

// incoming is what a journal had, by a name.
type incoming struct {
	name string
	x    api.Incoming
}

// changed is one that could go on, but for one thing.
func changed(name string, x api.Incoming, do func(*api.Incoming)) incoming {
	x.Have, x.Data = slices.Clone(x.Have), slices.Clone(x.Data)
	do(&x)
	return incoming{name, x}
}

// stuck are those that may not go on, each for one reason alone.
func stuck() []incoming {
	some := journal(0, 0, 0, 3, 5, 9)
	full := journal(9, 9, 0, 9)
	with := func(have []api.Span) api.Incoming {
		x := journal(0, 0)
		x.Have, x.Data = have, make([]byte, 20)
		return x
	}
	long := func(n int) api.Incoming {
		x := journal(0, 0)
		x.Have = []api.Span{span(0, n)}
		x.Data = make([]byte, n)
		return x
	}
	many := journal(0, 0)
	many.Have = ones(0, 2001)
	many.Data = make([]byte, 4001)
	return []incoming{
		{"spans that touch", with(spans(0, 5, 5, 20))},
		{"spans one over the other", with(spans(0, 6, 5, 20))},
		{"spans that are not sorted", with(spans(10, 20, 0, 20))},
		{"a span of no bytes", with(spans(20, 20))},
		{"a span below 0", with(spans(-1, 20))},
		{"a span the wrong way round", with(spans(20, 3))},
		{"more spans than a set has", many},
		{"an end above MaxBlock", long(most + 1)},
		changed("an end far above MaxBlock", some, func(x *api.Incoming) { x.Have[1].To = top }),
		changed("Red below 0", some, func(x *api.Incoming) { x.Red = -1 }),
		changed("the least Red", some, func(x *api.Incoming) { x.Red = minInt }),
		changed("Red above MaxBlock", some, func(x *api.Incoming) { x.Red = most + 1 }),
		changed("Red below the last byte's end", some, func(x *api.Incoming) { x.Red = 8 }),
		changed("Red 1", some, func(x *api.Incoming) { x.Red = 1 }),
		changed("Size below 0", some, func(x *api.Incoming) { x.Size = -1 }),
		changed("the least Size", some, func(x *api.Incoming) { x.Size = minInt }),
		changed("Size above MaxBlock", some, func(x *api.Incoming) { x.Size = most + 1 }),
		changed("Size below the last byte's end", some, func(x *api.Incoming) { x.Size = 8 }),
		changed("Size below Red", some, func(x *api.Incoming) { x.Red, x.Size = 12, 11 }),
		changed("Size below 0, nothing came", journal(0, 0), func(x *api.Incoming) { x.Size = -1 }),
		changed("Red below 0, nothing came", journal(0, 0), func(x *api.Incoming) { x.Red = -1 }),
		changed("Size below Red, nothing came", journal(9, 8), func(*api.Incoming) {}),
		changed("Gone", some, func(x *api.Incoming) { x.Gone = true }),
		changed("Gone, nothing came", journal(0, 0), func(x *api.Incoming) { x.Gone = true }),
		changed("Gone, and Heard", journal(0, 0), func(x *api.Incoming) { x.Gone, x.Heard = true, true }),
		changed("Shut", delivered(full, false), func(x *api.Incoming) { x.Shut = true }),
		changed("Shut, not Delivered", some, func(x *api.Incoming) { x.Shut = true }),
		{"Delivered, Red is not known", delivered(journal(0, 0, 0, 9), false)},
		{"Delivered, Red is not known, nothing came", delivered(journal(0, 0), true)},
		{"Delivered, a gap", delivered(journal(9, 9, 0, 3, 4, 9), false)},
		{"Delivered, without the first byte", delivered(journal(9, 9, 1, 9), true)},
		{"Delivered, without the last byte", delivered(journal(9, 9, 0, 8), false)},
		{"Delivered, nothing came", delivered(journal(9, 9), true)},
		changed("a byte less", some, func(x *api.Incoming) { x.Data = x.Data[:8] }),
		changed("a byte more", some, func(x *api.Incoming) { x.Data = make([]byte, 10) }),
		changed("as many bytes as came", some, func(x *api.Incoming) { x.Data = make([]byte, 7) }),
		changed("bytes, and nothing came", journal(0, 0), func(x *api.Incoming) { x.Data = []byte{1} }),
		changed("as many bytes as Red", journal(12, 0, 0, 9), func(x *api.Incoming) { x.Data = make([]byte, 12) }),
		changed("very many bytes", some, func(x *api.Incoming) { x.Data = make([]byte, 3*most) }),
		{"no bytes", bare(some)},
		changed("no bytes, Heard alone", bare(full), func(x *api.Incoming) { x.Heard = true }),
		{"no bytes, Delivered alone", bare(delivered(full, false))},
		changed("a byte less, Delivered and Heard", delivered(full, true), func(x *api.Incoming) { x.Data = x.Data[:8] }),
		changed("a byte more, Delivered and Heard", delivered(full, true), func(x *api.Incoming) { x.Data = make([]byte, 10) }),
		changed("one byte, Delivered and Heard", delivered(full, true), func(x *api.Incoming) { x.Data = x.Data[:1] }),
	}
}

// goesOn are those that may go on.
func goesOn() []incoming {
	all := journal(0, 0, 0, most)
	last := journal(0, 0, most-1, most)
	many := journal(0, 0)
	many.Have = ones(1, 2000)
	many.Data = dataOf(many.Have)
	noise := journal(20, 0, 2, 4, 7, 9)
	for i := range noise.Data {
		noise.Data[i] = byte(200 + i) // in the gaps too: there it means nothing
	}
	return []incoming{
		{"nothing came", journal(0, 0)},
		{"nothing came, Red is known", journal(1, 0)},
		{"nothing came, Red is MaxBlock", journal(most, 0)},
		{"nothing came, Size is known", journal(0, 1)},
		{"nothing came, Size is MaxBlock", journal(0, most)},
		{"nothing came, Red is Size", journal(7, 7)},
		{"one byte", journal(0, 0, 0, 1)},
		{"one byte that is all", journal(1, 1, 0, 1)},
		{"gaps", journal(0, 0, 0, 3, 5, 9)},
		{"gaps, from 1 on", journal(0, 0, 1, 3, 5, 9)},
		{"Red is the last byte's end", journal(9, 0, 0, 3, 5, 9)},
		{"Red is above it", journal(10, 0, 0, 3, 5, 9)},
		{"Red is MaxBlock", journal(most, 0, 0, 3, 5, 9)},
		{"Size is the last byte's end", journal(0, 9, 0, 3, 5, 9)},
		{"Size is MaxBlock", journal(0, most, 0, 3, 5, 9)},
		{"Size is Red", journal(10, 10, 0, 3, 5, 9)},
		{"Size is above Red", journal(10, 11, 0, 3, 5, 9)},
		{"whole, and not Delivered", journal(9, 0, 0, 9)},
		{"Delivered", delivered(journal(9, 0, 0, 9), false)},
		{"Delivered, Size is known", delivered(journal(9, 12, 0, 9), false)},
		{"Delivered and Heard", delivered(journal(9, 9, 0, 9), true)},
		{"Delivered and Heard, without Data", bare(delivered(journal(9, 9, 0, 9), true))},
		{"Delivered and Heard, without Data, Size is not known", bare(delivered(journal(9, 0, 0, 9), true))},
		{"Delivered and Heard, without Data, MaxBlock", bare(delivered(journal(most, most, 0, most), true))},
		changed("Heard alone", journal(9, 9, 0, 9), func(x *api.Incoming) { x.Heard = true }),
		changed("Heard, nothing came", journal(0, 0), func(x *api.Incoming) { x.Heard = true }),
		changed("a How, which nobody asks for", journal(9, 0, 0, 3), func(x *api.Incoming) { x.How = maxInt }),
		{"all bytes", all},
		{"the last byte alone", last},
		{"as many spans as a set has", many},
		{"other bytes in the gaps", noise},
	}
}

// wontGoBack wants that Back refuses what a journal had, with a change of the other arguments.
func wontGoBack(t *testing.T, x incoming, a change) {
	t.Helper()
	o := usual()
	a.do(&o)
	x.x.Session, x.x.Service = o.s, o.service
	m, got, e := imports.Back(x.x, o.mtu, o.r, o.base)
	fatalIf(t, e != 1 || m != nil || !same(got, api.Moves{}), "%s, %s: %v %v %v", x.name, a.name, m, got, e)
}

// Each thing that keeps it from going on, alone, and with any argument that may be.
func TestP132Refuses(t *testing.T) {
	for _, x := range stuck() {
		for _, a := range within() {
			wontGoBack(t, x, a)
		}
	}
}

// Each argument that may not be, with all that may go on.
func TestP132Arguments(t *testing.T) {
	for _, x := range goesOn() {
		for _, a := range beyond() {
			wontGoBack(t, x, a)
		}
	}
}

// What may go on has what the journal had, and tells it.
func TestP132GoesOn(t *testing.T) {
	t.Parallel()
	for _, x := range goesOn() {
		for _, o := range []opening{usual(), usual().link(4096).from(0), usual().from(top / 2)} {
			b, got := again(t, o, x.x)
			now := shows(b.Import)
			fatalIf(t, now.red != x.x.Red || !slices.Equal(now.have, x.x.Have), "%s: %v", x.name, now)
			fatalIf(t, now.closed || now.waits != len(got.Send), "%s: %v, %d reports", x.name, now, len(got.Send))
			fatalIf(t, len(got.Send) == 0 != (len(x.x.Have) == 0), "%s: %d reports", x.name, len(got.Send))
			fatalIf(t, len(x.x.Data) == 0 && now.held != 0, "%s: %d bytes are held", x.name, now.held)
			for i, r := range got.Send {
				fatalIf(t, r.Report != o.base+1+i || r.Check != 0, "%s: %v", x.name, r)
			}
		}
	}
}

// The limits of arguments are fine for Back, too.
func TestP132Limits(t *testing.T) {
	for _, a := range within() {
		o := usual()
		a.do(&o)
		b, got := again(t, o, journal(9, 0, 0, 3, 5, 9))
		b.wants(t, sends(o.base+1), starts(o.base+1))
		fatalIf(t, !hasSerials(got, []int{o.base + 1}), "%s: %v", a.name, got)
	}
}

// Its bytes are those of Data at the places of Have alone: what comes to the gaps is what is there then.
func TestP132Bytes(t *testing.T) {
	x := journal(0, 0, 2, 4, 7, 9)
	for i := range x.Data {
		x.Data[i] = byte(100 + i)
	}
	b, _ := again(t, usual(), x)
	fatalIf(t, b.Held() != 4 || len(b.Bytes()) != 0, "%v", shows(b.Import))
	b.judged(t, b.m.seg(api.RedLast, 0, 9, 1), api.Verdict{Fresh: 5, Clash: 4, Red: 9, Size: 9, Whole: true})
	b.take(t, api.RedLast, 0, 9, 1)
	want := slices.Clone(wholeBlock[:9])
	copy(want[2:4], x.Data[2:])
	copy(want[7:9], x.Data[7:])
	fatalIf(t, !slices.Equal(b.Bytes(), want), "%v, not %v", b.Bytes(), want)
}

// The reports of a start lie side by side, and wait; they are unasked: no checkpoint meets them again.
func TestP132Reports(t *testing.T) {
	x := journal(0, 0)
	x.Have = ones(0, 100)
	x.Data = dataOf(x.Have)
	b, got := again(t, usual(), x)
	fatalIf(t, len(got.Send) < 3 || got.Send[0].Lower != 0 || got.Send[len(got.Send)-1].Upper != 199, "%v", got)
	next := 101 + len(got.Send)
	for _, r := range got.Send {
		b.wants(t, lates(r.Report), api.Moves{})
		b.wants(t, sends(r.Report), starts(r.Report))
		b.wants(t, lates(r.Report), brings(r))
		b.wants(t, sends(r.Report), starts(r.Report))
	}
	// The first checkpoint's serials go on from there; its lower is that of a report of the start.
	second := got.Send[1]
	moves := b.take(t, api.RedCheck, 198, 199, 1, second.Report)
	fatalIf(t, len(moves.Send) == 0 || moves.Send[0].Report != next || moves.Send[0].Lower != second.Lower, "%v", moves)
	for _, r := range got.Send {
		b.wants(t, acks(r.Report), stops(r.Report))
	}
	fatalIf(t, b.Waits() != len(moves.Send), "Waits: %d", b.Waits())
}

// What came ahead of Back is not new behind it: the first checkpoint without new bytes has brought nothing.
func TestP132NothingIsNew(t *testing.T) {
	b, _ := again(t, usual(), journal(9, 0, 0, 3, 5, 9))
	b.judged(t, b.m.seg(api.RedCheck, 0, 3, 1), api.Verdict{Red: 9})
	b.take(t, api.RedCheck, 0, 3, 1)
	b.wants(t, takes(b.m.seg(api.RedCheck, 0, 3, 2)), overFor(api.ByCycles))
	b.take(t, api.RedPlain, 3, 4)
	b.take(t, api.RedCheck, 0, 3, 2)
}

// Where the red part and the block end is known from the journal; green bytes that came ahead are not.
func TestP132Verdicts(t *testing.T) {
	b, _ := again(t, usual(), journal(20, 30, 0, 5, 8, 10))
	for _, x := range []struct {
		x     api.Segment
		wrong bool
	}{
		{b.m.seg(api.RedPlain, 15, 21), true},
		{b.m.seg(api.RedPlain, 15, 20), false},
		{b.m.seg(api.RedEnd, 15, 19, 1), true},
		{b.m.seg(api.RedEnd, 15, 20, 1), false},
		{b.m.seg(api.RedLast, 15, 20, 1), true},
		{b.m.seg(api.GreenPlain, 19, 30), true},
		{b.m.seg(api.GreenPlain, 20, 30), false},
		{b.m.seg(api.GreenPlain, 20, 31), true},
		{b.m.seg(api.GreenLast, 20, 29), true},
		{b.m.seg(api.GreenLast, 20, 30), false},
	} {
		v, wrong := b.judges(x.x)
		fatalIf(t, wrong != "" || v.Wrong != x.wrong, "%v: %v %s", x.x, v, wrong)
	}
	b, _ = again(t, usual(), journal(0, 0, 0, 5, 8, 10))
	b.judged(t, b.m.seg(api.RedEnd, 0, 9, 1), api.Verdict{Wrong: true})
	b.judged(t, b.m.seg(api.RedEnd, 5, 10, 1), api.Verdict{Fresh: 3, Red: 10, Whole: true})
	b.judged(t, b.m.seg(api.GreenPlain, 9, 12), api.Verdict{Wrong: true})
	b.judged(t, b.m.seg(api.GreenLast, 10, 12), api.Verdict{Size: 12})
}

// Dropped by the journal it goes on without bytes, and closes when its reports are acknowledged.
func TestP132Dropped(t *testing.T) {
	for _, size := range []int{0, 9, 12} {
		b, got := again(t, usual(), bare(delivered(journal(9, size, 0, 9), true)))
		fatalIf(t, !b.Whole() || b.Held() != 0 || len(b.Bytes()) != 0 || b.Closed(), "%v", shows(b.Import))
		b.judged(t, api.Segment{Type: api.RedPlain, Session: b.m.s, Service: 7, Offset: 2, Data: []byte{250, 251}}, api.Verdict{Red: 9, Size: size})
		b.wants(t, acks(got.Send[0].Report), stops(got.Send[0].Report))
		fatalIf(t, b.Closed() != (size > 0), "Size %d: Closed is %v", size, b.Closed())
		if size == 0 {
			b.take(t, api.GreenLast, 9, 11)
			fatalIf(t, !b.Closed(), "not closed")
		}
	}
}

// With Data it holds them, Delivered and Heard or not, till Drop.
func TestP132Held(t *testing.T) {
	for _, x := range []api.Incoming{journal(9, 9, 0, 9), delivered(journal(9, 9, 0, 9), false), delivered(journal(9, 9, 0, 9), true)} {
		b, _ := again(t, usual(), x)
		fatalIf(t, b.Held() != 9 || !slices.Equal(b.Bytes(), wholeBlock[:9]), "%v", shows(b.Import))
		b.does(t, drops())
		fatalIf(t, b.Held() != 0 || len(b.Bytes()) != 0 || !b.Whole(), "%v", shows(b.Import))
	}
}
