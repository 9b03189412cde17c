package export_test

import (
	"bytes"
	"math/rand/v2"
	"runtime"
	"slices"
	"testing"
	"weak"

	"lantern/api"
	"lantern/export"
)

// roomy is a copy of a list with spare room, all of it marked.
func roomy[T any](l []T, mark T) []T {
	out := make([]T, len(l)+3)
	for i := range out {
		out[i] = mark
	}
	copy(out, l)
	return out[:len(l)]
}

// whole is a list with its spare room.
func whole[T any](l []T) []T { return l[:cap(l)] }

// fill writes over a list, and its spare room.
func fill[T any](l []T, mark T) {
	for i := range whole(l) {
		whole(l)[i] = mark
	}
}

// copyOf is an answer in memory of its own.
func copyOf(m api.Moves) api.Moves {
	m.Stop, m.Start, m.Send = slices.Clone(m.Stop), slices.Clone(m.Start), slices.Clone(m.Send)
	for i := range m.Send {
		m.Send[i].Data = slices.Clone(m.Send[i].Data)
	}
	return m
}

// spoil writes over all of an answer, spare room too, one list behind the other, and wants that no list that is still to come changes by that.
func spoil(t *testing.T, m api.Moves) {
	t.Helper()
	want := copyOf(m)
	fill(m.Stop, -1)
	fatalIf(t, !slices.Equal(m.Start, want.Start), "Stop and Start share memory")
	fill(m.Start, -2)
	for i := range m.Send {
		fatalIf(t, !sameSegment(m.Send[i], want.Send[i]), "the segment %d was written over: %v", i, m.Send[i])
		fill(m.Send[i].Data, 0xee)
	}
	fill(m.Send, api.Segment{Type: 99, Check: 99, Data: []byte{99}})
}

// spoiled does what the row of calls of a seed does; what it hands in and what it is answered it writes over at once.
func spoiled(t *testing.T, o opening, l []call) (out []api.Moves, have [][]api.Span) {
	t.Helper()
	given := roomy(o.block, 201)
	x, m, e := export.Open(o.s, o.p, given, o.r, o.base, o.again)
	fatalIf(t, e != ok, "%v", e)
	fatalIf(t, !bytes.Equal(whole(given), whole(roomy(o.block, 201))), "Open changed the block, or its spare room")
	fill(given, 0xdd)
	take := func(m api.Moves) {
		out = append(out, copyOf(m))
		spoil(t, m)
		known := x.Have()
		have = append(have, slices.Clone(known))
		fill(known, span(7, 9))
	}
	take(m)
	for _, c := range l {
		mark, claim := api.Ext{Tag: 200, Data: []byte{200}}, span(202, 203)
		c.x.Data, c.x.Head, c.x.Claims = roomy(c.x.Data, 204), roomy(c.x.Head, mark), roomy(c.x.Claims, claim)
		c.r.Claims = roomy(c.r.Claims, claim)
		data, claims := slices.Clone(whole(c.x.Data)), slices.Clone(whole(c.r.Claims))
		got := c.calls(real{x})
		fatalIf(t, !slices.Equal(whole(c.r.Claims), claims) || !bytes.Equal(whole(c.x.Data), data), "%v changed what it was given", c)
		fatalIf(t, len(c.x.Head) != 0 || whole(c.x.Head)[0].Tag != 200 || whole(c.x.Claims)[0] != claim, "%v changed spare room", c)
		fill(c.x.Data, 0xdd)
		fill(c.r.Claims, span(5, 6))
		take(got)
	}
	return out, have
}

// Rows of calls by chance: written over or not, what is handed in and answered makes no difference to what comes later.
func TestP127WrittenOver(t *testing.T) {
	t.Parallel()
	for seed := range uint64(600) {
		draw := rand.New(rand.NewPCG(seed, 77))
		o := drawn(draw)
		b := begin(t, o)
		put := slices.Clone(b.first)
		want, have := []api.Moves{{Send: b.first}}, [][]api.Span{b.Have()}
		var l []call
		for range 50 {
			c := drawnCall(draw, b, put)
			m := b.does(t, c)
			put = append(put, m.Send...)
			l, want, have = append(l, c), append(want, m), append(have, b.Have())
		}
		got, known := spoiled(t, o, l)
		for i := range want {
			fatalIf(t, !same(got[i], want[i]) || !slices.Equal(known[i], have[i]), "seed %d, answer %d: %v, not %v", seed, i, got[i], want[i])
		}
	}
}

// A report that brings nothing, as no set could be, leaves what is known as it is; Have is new memory then, too.
func TestP127WrittenOverAtTheMost(t *testing.T) {
	b := started(t, usual(9000, 9000).rules(1, 1000))
	l := roomy(ones(0, 1000), span(1, 2))
	b.does(t, reports(told(1, 0, 9000, l...)))
	fill(l, span(3, 4))
	l = ones(2000, 1000)
	b.does(t, reports(told(2, 0, 9000, l...)))
	fill(l, span(3, 4))
	for i := range 5 {
		l = []api.Span{span(8000+i, 8001+i)}
		b.does(t, reports(told(3+i, 0, 9000, l...)))
		fill(l, span(3, 4))
		fill(b.Have(), span(3, 4))
		fatalIf(t, !slices.Equal(b.Have(), ones(0, 2000)), "Have was written over")
	}
}

// What Finish makes known is new memory each time.
func TestP127FinishWrittenOver(t *testing.T) {
	b := started(t, usual(200, 200).every(1))
	m := b.Finish()
	spoil(t, m)
	b.m.finish()
	for range 3 {
		fill(b.Have(), span(3, 4))
		wrong := b.looks()
		fatalIf(t, wrong != "", "%s", wrong)
	}
}

// opened is an export of a block of which nobody else holds anything, and a pointer to that which does not hold it.
func opened(t *testing.T, o opening) (*export.Export, weak.Pointer[byte]) {
	t.Helper()
	o.block = block(len(o.block))
	at := weak.Make(&o.block[0])
	x, _, e := o.open()
	fatalIf(t, e != ok, "%v", e)
	return x, at
}

// The block that was handed in is not kept, whatever part of it is red.
func TestP127BlockIsNotKept(t *testing.T) {
	for _, o := range []opening{usual(5000, 5000), usual(5000, 200), usual(5000, 0), usual(5000, 4000).reopened()} {
		x, at := opened(t, o)
		for range 3 {
			runtime.GC()
		}
		fatalIf(t, at.Value() != nil, "%v: the block is kept", o.p)
		fatalIf(t, x.Whole(), "it is whole")
	}
}

// heap is how many bytes are held.
func heap() int {
	runtime.GC()
	var m runtime.MemStats
	runtime.ReadMemStats(&m)
	return int(m.HeapAlloc)
}

// Green bytes go out once: they are not kept; nor red ones behind Finish, as they are never sent again.
func TestP127NoMoreIsKeptThanIsSentAgain(t *testing.T) {
	for _, red := range []int{100, most} {
		o := usual(most, red)
		before := heap()
		var l []*export.Export
		for range 200 {
			x, _, _ := o.open()
			if red == most {
				x.Finish()
			}
			l = append(l, x)
		}
		grown := heap() - before
		fatalIf(t, grown > 200*most/4, "Red %d: %d bytes are held", red, grown)
		runtime.KeepAlive(l)
	}
}
