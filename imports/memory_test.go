package imports_test

import (
	"bytes"
	"math/rand/v2"
	"runtime"
	"slices"
	"testing"
	"weak"

	"lantern/api"
	"lantern/imports"
)

// roomy is a copy of a list with spare room, all of it marked.
func roomy[T any](l []T, mark T) []T {
	out := make([]T, len(l)+3)
	for i := range out {
		out[i] = mark
	}
	copy(out, l)
	return out[:len(l)]
}

// whole is a list with its spare room.
func whole[T any](l []T) []T { return l[:cap(l)] }

// fill writes over a list, and its spare room.
func fill[T any](l []T, mark T) {
	for i := range whole(l) {
		whole(l)[i] = mark
	}
}

// copyOf is an answer in memory of its own.
func copyOf(m api.Moves) api.Moves {
	m.Stop, m.Start, m.Send = slices.Clone(m.Stop), slices.Clone(m.Start), slices.Clone(m.Send)
	for i := range m.Send {
		m.Send[i].Claims = slices.Clone(m.Send[i].Claims)
	}
	return m
}

// spoil writes over all of an answer, spare room too, one list behind the other, and wants that no list that is still to come changes by that.
func spoil(t *testing.T, m api.Moves) {
	t.Helper()
	want := copyOf(m)
	fill(m.Stop, -1)
	fatalIf(t, !slices.Equal(m.Start, want.Start), "Stop and Start share memory")
	fill(m.Start, -2)
	for i := range m.Send {
		fatalIf(t, !sameSegment(m.Send[i], want.Send[i]), "the segment %d was written over: %v", i, m.Send[i])
		fill(m.Send[i].Claims, span(1, 9))
	}
	fill(m.Send, api.Segment{Type: 99, Check: 99, Claims: spans(3, 4)})
}

// spoilShown writes over all that is shown.
func spoilShown(m *imports.Import) {
	fill(m.Have(), span(5, 6))
	fill(m.Bytes(), 0xee)
}

// guarded is a segment whose lists have spare room; unchanged tells whether all of it is as it was.
func guarded(x api.Segment) (api.Segment, func() bool) {
	x.Data = roomy(x.Data, 204)
	x.Head, x.Tail = roomy(x.Head, api.Ext{Tag: 200}), roomy(x.Tail, api.Ext{Tag: 201})
	x.Claims = roomy(x.Claims, span(202, 203))
	data := slices.Clone(whole(x.Data))
	return x, func() bool {
		return bytes.Equal(whole(x.Data), data) && whole(x.Head)[0].Tag == 200 && whole(x.Tail)[0].Tag == 201 && whole(x.Claims)[0] == span(202, 203)
	}
}

// spoiled does a row of calls; what it hands in and what it is answered it writes over at once.
func spoiled(t *testing.T, m *imports.Import, l []call) (out []api.Moves, seen []shown) {
	t.Helper()
	for _, c := range l {
		x, unchanged := guarded(c.x)
		c.x = x
		if c.do == doTake {
			m.Look(x)
			fatalIf(t, !unchanged(), "Look changed what it was given: %v", c)
		}
		got, _ := c.calls(real{m})
		fatalIf(t, !unchanged(), "%v changed what it was given", c)
		fill(x.Data, 0xdd)
		out = append(out, copyOf(got))
		spoil(t, got)
		spoilShown(m)
		now := shows(m)
		now.have, now.bytes = slices.Clone(now.have), slices.Clone(now.bytes)
		seen = append(seen, now)
	}
	return out, seen
}

// Rows of calls by chance: written over or not, what is handed in and answered makes no difference to what comes later.
func TestP139WrittenOver(t *testing.T) {
	t.Parallel()
	for seed := range uint64(800) {
		draw := rand.New(rand.NewPCG(seed, 93))
		o := drawnOpening(draw)
		reach := 2 + draw.IntN(60)
		b := begin(t, o)
		var l []call
		var want []api.Moves
		var show []shown
		for range 60 {
			c := drawnCall(draw, o, reach)
			l, want, show = append(l, c), append(want, b.does(t, c)), append(show, shows(b.Import))
		}
		m, _ := o.open()
		got, seen := spoiled(t, m, l)
		for i := range l {
			fatalIf(t, !same(got[i], want[i]) || !seen[i].same(show[i]), "seed %d, answer %d: %v, not %v; %v, not %v", seed, i, got[i], want[i], seen[i], show[i])
		}
	}
}

// What Back is given, and what it answers.
func TestP139BackWrittenOver(t *testing.T) {
	for _, from := range goesOn() {
		o := usual()
		clean, want := again(t, o, from.x)
		x := from.x
		x.Have, x.Data = roomy(x.Have, span(1, 2)), roomy(x.Data, 99)
		have, data := slices.Clone(whole(x.Have)), slices.Clone(whole(x.Data))
		m, got, e := imports.Back(x, o.mtu, o.r, o.base)
		fatalIf(t, e != ok || !same(got, want), "%s: %v %v", from.name, got, e)
		fatalIf(t, !slices.Equal(whole(x.Have), have) || !bytes.Equal(whole(x.Data), data), "%s: Back changed what it was given", from.name)
		fill(x.Have, span(3, 9))
		fill(x.Data, 0xdd)
		spoil(t, got)
		spoilShown(m)
		fatalIf(t, !shows(m).same(shows(clean.Import)), "%s: %v, not %v", from.name, shows(m), shows(clean.Import))
		for i := range want.Send {
			serial := o.base + 1 + i
			m.Sent(serial)
			again := m.Late(serial)
			fatalIf(t, !same(again, api.Moves{Send: want.Send[i : i+1]}), "%s: %v, not %v", from.name, again, want.Send[i])
			spoil(t, again)
			m.Sent(serial)
			again = m.Late(serial)
			fatalIf(t, !same(again, api.Moves{Send: want.Send[i : i+1]}), "%s: %v, not %v", from.name, again, want.Send[i])
		}
	}
}

// Reports that are sent again are new memory each time: by Late, and by their checkpoint.
func TestP139SentAgainWrittenOver(t *testing.T) {
	b := begin(t, usual())
	b.take(t, api.RedPlain, 0, 5)
	x := b.m.seg(api.RedLast, 10, 20, 1)
	want := copyOf(b.does(t, takes(x)))
	for i := range 4 {
		b.does(t, sends(101))
		c := takes(x)
		if i%2 == 0 {
			c = lates(101)
		}
		got := b.does(t, c)
		fatalIf(t, !same(got, want), "%v, not %v", got, want)
		spoil(t, got)
	}
	b.take(t, api.RedPlain, 5, 10)
	b.does(t, acks(101))
	b.take(t, api.RedCheck, 5, 10, 2)
	b.does(t, acks(102))
	fatalIf(t, !b.Closed(), "not closed, though both reports together claim all")
}

// gone tells whether nobody holds what a pointer points at.
func gone[T any](at weak.Pointer[T]) bool {
	for range 3 {
		runtime.GC()
	}
	return at.Value() == nil
}

// taken is an import, and a pointer to the bytes that it was given which does not hold them.
func taken(t *testing.T, kind int) (*imports.Import, weak.Pointer[byte]) {
	t.Helper()
	m, _ := usual().open()
	data := block(4000)
	x := usual().seg(kind, 0, 4000, 1)
	if kind == api.RedPlain || kind >= api.GreenPlain {
		x.Check = 0
	}
	x.Data = data
	at := weak.Make(&data[0])
	_, e := m.Take(x)
	fatalIf(t, e != ok, "%v", e)
	return m, at
}

// The bytes of a segment are not kept.
func TestP139DataIsNotKept(t *testing.T) {
	for _, kind := range []int{api.RedPlain, api.RedCheck, api.RedLast, api.GreenPlain, api.GreenLast} {
		m, at := taken(t, kind)
		fatalIf(t, !gone(at), "type %d: the bytes are kept", kind)
		runtime.KeepAlive(m)
	}
}

// revived is an import by what a journal had, and pointers to what it was given.
func revived(t *testing.T) (*imports.Import, weak.Pointer[byte], weak.Pointer[api.Span]) {
	t.Helper()
	x := journal(0, 0)
	x.Have = ones(0, 500)
	x.Data = dataOf(x.Have)
	data, have := weak.Make(&x.Data[0]), weak.Make(&x.Have[0])
	m, _, e := imports.Back(x, 80, usual().r, 100)
	fatalIf(t, e != ok, "%v", e)
	return m, data, have
}

// Nor what Back was given.
func TestP139JournalIsNotKept(t *testing.T) {
	m, data, have := revived(t)
	fatalIf(t, !gone(data) || !gone(have), "what Back was given is kept")
	runtime.KeepAlive(m)
}

// heap is how many bytes are held.
func heap() int {
	runtime.GC()
	var m runtime.MemStats
	runtime.ReadMemStats(&m)
	return int(m.HeapAlloc)
}

// Behind Drop no byte is held, nor by what Back begins without Data.
func TestP139NoMoreIsKept(t *testing.T) {
	before := heap()
	var l []*imports.Import
	for range 100 {
		m, _, _ := imports.Back(bare(delivered(journal(most, most, 0, most), true)), 80, usual().r, 100)
		n, _, _ := imports.Back(delivered(journal(most, most, 0, most), true), 80, usual().r, 100)
		n.Drop()
		l = append(l, m, n)
	}
	grown := heap() - before
	fatalIf(t, grown > 200*most/8, "%d bytes are held", grown)
	runtime.KeepAlive(l)
}

// Claims of what was acknowledged are not kept report by report.
func TestP139AcknowledgedClaimsAreNotKept(t *testing.T) {
	m, _ := usual().link(4096).rules(1, 1000).open()
	for _, s := range ones(0, 1999) {
		m.Take(usual().seg(api.RedPlain, s.From, s.To))
	}
	before := heap()
	for i := range 900 {
		got, _ := m.Take(usual().seg(api.RedCheck, 3996, 3997, 1+i))
		for _, r := range got.Send {
			m.Ack(r.Report)
		}
	}
	grown := heap() - before
	fatalIf(t, grown > 1<<20, "%d bytes are held", grown)
	fatalIf(t, m.Waits() != 0, "Waits: %d", m.Waits())
}
