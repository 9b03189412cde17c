package lines_test

import (
	"runtime"
	"slices"
	"testing"
	"weak"

	"lantern/api"
	"lantern/lines"
)

// roomy is a copy of a list with spare room, all of it marked.
func roomy[T any](l []T, mark T) []T {
	out := make([]T, len(l)+3)
	for i := range out {
		out[i] = mark
	}
	copy(out, l)
	return out[:len(l)]
}

// whole is a list with its spare room.
func whole[T any](l []T) []T { return l[:cap(l)] }

// lush is a segment of a type, every list of which has spare room; those that its type has not are empty, with spare room too.
func lush(kind, mark int) api.Segment {
	s := some(kind, session(3, 4), mark)
	s.Tail = []api.Ext{{Tag: 5}, {Tag: 6, Data: []byte{6, 6, 6}}}
	for _, l := range [][]api.Ext{s.Head, s.Tail} {
		for i := range l {
			l[i].Data = roomy(l[i].Data, 200)
		}
	}
	spare := api.Ext{Tag: 201, Data: []byte{201}}
	s.Head, s.Tail = roomy(s.Head, spare), roomy(s.Tail, spare)
	s.Data, s.Claims = roomy(s.Data, 202), roomy(s.Claims, api.Span{From: 203, To: 204})
	return s
}

// deep is all of a segment's memory, spare room too, in a list of numbers.
func deep(s api.Segment) (out []int) {
	out = append(out, len(s.Head), len(s.Tail), len(s.Data), len(s.Claims))
	for _, l := range [][]api.Ext{whole(s.Head), whole(s.Tail)} {
		for _, x := range l {
			out = append(out, x.Tag, len(x.Data))
			for _, b := range whole(x.Data) {
				out = append(out, int(b))
			}
		}
	}
	for _, b := range whole(s.Data) {
		out = append(out, int(b))
	}
	for _, c := range whole(s.Claims) {
		out = append(out, c.From, c.To)
	}
	return out
}

// spoil writes over all memory of a segment, spare room too.
func spoil(s api.Segment) {
	for _, l := range [][]api.Ext{whole(s.Head), whole(s.Tail)} {
		for i := range l {
			spoilBytes(l[i].Data)
			l[i] = api.Ext{Tag: 99, Data: []byte{99}}
		}
	}
	spoilBytes(s.Data)
	for i := range whole(s.Claims) {
		whole(s.Claims)[i] = api.Span{From: 98, To: 99}
	}
}

func spoilBytes(b []byte) {
	b = whole(b)
	for i := range b {
		b[i] = 99
	}
}

// spoilAll writes over a list of segments, all that is in it and its spare room.
func spoilAll(l []api.Segment) {
	for _, s := range l {
		spoil(s)
	}
	l = whole(l)
	for i := range l {
		l[i] = some(9, session(99, 99), 99)
	}
}

// What is put is neither changed, nor its spare room; who put it may write over it.
func TestP115SegmentsWrittenOver(t *testing.T) {
	for _, kind := range types() {
		x := lines.New(9)
		var want []api.Segment
		for mark := range 5 {
			s := lush(kind, mark)
			before := deep(s)
			answers(t, x, 1, s, ok)
			fatalIf(t, !slices.Equal(deep(s), before), "type %d: Put changed it", kind)
			spoil(s)
			want = append(want, lush(kind, mark))
		}
		out := x.Take(1, 9)
		fatalIf(t, !sameAll(out, want), "type %d: %v, not %v", kind, out, want)
	}
}

// One segment put twice, or for two peers, or into two lines, comes as two that share nothing.
func TestP115OneSegmentPutTwice(t *testing.T) {
	for _, kind := range types() {
		x, y, s := lines.New(9), lines.New(9), lush(kind, 7)
		answers(t, x, 1, s, ok)
		answers(t, x, 1, s, ok)
		answers(t, x, 2, s, ok)
		answers(t, y, 1, s, ok)
		out := slices.Concat(x.Take(1, 1), x.Take(1, 1), x.Take(2, 1), y.Take(1, 1))
		for i := range out {
			fatalIf(t, !same(out[i], lush(kind, 7)), "type %d: the %d of them was written over: %v", kind, i, out[i])
			spoil(out[i])
		}
		fatalIf(t, !same(s, lush(kind, 7)), "type %d: what was put was written over", kind)
	}
}

// What is taken is the taker's: written over, its spare room too, it changes nothing that waits, and no other answer.
func TestP115AnswersWrittenOver(t *testing.T) {
	for most := 1; most <= 20; most++ {
		x, y := lines.New(99), lines.New(99)
		for i := range 60 {
			s := lush(types()[i*5%12], i)
			answers(t, x, 1, s, ok)
			answers(t, y, 1, s, ok)
		}
		var kept [][]api.Segment
		for x.Count(1) > 0 {
			out, want := x.Take(1, most), y.Take(1, most)
			fatalIf(t, len(out) == 0 || !sameAll(out, want), "%d at a time: %v, not %v", most, out, want)
			kept = append(kept, want)
			spoilAll(out)
		}
		for _, l := range kept {
			for _, s := range l {
				fatalIf(t, s.Session != session(3, 4), "an answer was written over by another one: %v", s)
			}
		}
	}
}

// The lists of one answer share no memory with one another.
func TestP115ListsOfOneAnswer(t *testing.T) {
	x := lines.New(99)
	for i := range 24 {
		answers(t, x, 1, lush(types()[i%12], i), ok)
	}
	out := x.Take(1, 99)
	for i := range out {
		fatalIf(t, !same(out[i], lush(out[i].Type, markOf(out[i]))), "the %d of them was written over: %v", i, out[i])
		tail := slices.Clone(out[i].Tail)
		for j := range whole(out[i].Head) {
			spoilBytes(whole(out[i].Head)[j].Data)
			whole(out[i].Head)[j] = api.Ext{}
		}
		spoilBytes(out[i].Data)
		fatalIf(t, !sameExts(tail, lush(out[i].Type, 0).Tail) || !sameExts(tail, out[i].Tail), "the %d of them: its ends share memory", i)
		spoil(out[i])
	}
}

// Both ends of what is put may be one list, and its Data the same as an extension's: what comes has lists of its own.
func TestP115OneListInTwoPlaces(t *testing.T) {
	shared := []byte{1, 2, 3}
	exts := []api.Ext{{Tag: 1, Data: shared}, {Tag: 2, Data: shared}}
	x := lines.New(9)
	answers(t, x, 1, api.Segment{Type: 0, Session: session(1, 1), Head: exts, Tail: exts, Data: shared}, ok)
	s := x.Take(1, 1)[0]
	s.Head[0].Data[0] = 9
	s.Head[1].Tag = 9
	fatalIf(t, s.Head[1].Data[0] != 1 || s.Tail[0].Data[0] != 1 || s.Data[0] != 1 || s.Tail[1].Tag != 2 || shared[0] != 1, "%v, %v", s, shared)
}

// Lines have nothing in common: the limit of the one, and what waits there, says nothing of the other.
func TestP115SideBySide(t *testing.T) {
	x, y := newBoth(1, 1, 2), newBoth(3, 1, 2)
	for i, kind := range []int{9, 0, 8, 13, 4, 12, 15, 3, 14, 9, 7, 1} {
		x.does(t, puts(1+i%2, some(kind, session(1, 1), i)))
		y.does(t, puts(1+i/2%2, some(kind, session(1, 1), i)))
		switch i % 4 {
		case 1:
			x.does(t, takes(1, 1))
		case 2:
			y.does(t, drops(session(1, 1), i == 6))
		case 3:
			y.does(t, takes(2, 2))
		}
	}
	x.does(t, drops(session(1, 1), true))
	y.ends(t)
	x.ends(t)
}

// takeOne takes one, and keeps of it no more than a pointer that does not hold it.
func takeOne(t *testing.T, x *lines.Lines) weak.Pointer[byte] {
	t.Helper()
	out := x.Take(1, 1)
	fatalIf(t, len(out) != 1 || len(out[0].Data) != 4000, "%d came", len(out))
	return weak.Make(&out[0].Data[0])
}

// Of what was taken nothing is kept, even while much else waits in its line.
func TestP113NothingOfItIsKept(t *testing.T) {
	x := lines.New(0)
	for range 40 {
		answers(t, x, 1, api.Segment{Type: 0, Session: session(1, 1), Data: make([]byte, 4000)}, ok)
	}
	var taken []weak.Pointer[byte]
	for range 12 {
		taken = append(taken, takeOne(t, x))
	}
	for range 3 {
		runtime.GC()
	}
	for i, p := range taken {
		fatalIf(t, p.Value() != nil, "the %d of them is kept still", i)
	}
	counts(t, x, 1, 28)
}

// heap is how many bytes are held.
func heap() int {
	runtime.GC()
	var m runtime.MemStats
	runtime.ReadMemStats(&m)
	return int(m.HeapAlloc)
}

// However many went through lines, for however many peers: what is held is what waits.
func TestP113NoMoreIsKeptThanWaits(t *testing.T) {
	x := lines.New(0)
	s := some(0, session(1, 1), 0)
	answers(t, x, 1, s, ok)
	before := heap()
	for p := range 100000 {
		x.Put(1, s)
		x.Put(10+p, s)
		fatalIf(t, len(x.Take(1, 1)) != 1 || len(x.Take(10+p, 1)) != 1, "the %d of them did not come", p)
	}
	grown := heap() - before
	fatalIf(t, grown > 8<<20, "%d bytes are held more than were", grown)
	counts(t, x, 1, 1)
}
