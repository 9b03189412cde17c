package lines_test

import (
	"testing"

	"lantern/api"
	"lantern/lines"
)

func TestErrors(t *testing.T) {
	fatalIf(t, api.ErrArg != 1 || api.ErrLinesFull != 110, "ErrArg %d, ErrLinesFull %d", api.ErrArg, api.ErrLinesFull)
	fatalIf(t, api.MaxNum != top, "MaxNum %d", api.MaxNum)
}

// The chapter's examples, on lines where they follow on one another.
func TestExamples(t *testing.T) {
	five := session(1, 5)
	d1, d2, g, r := some(api.RedPlain, five, 1), some(api.RedLast, five, 2), some(api.GreenPlain, five, 3), some(api.ReportType, five, 4)
	a1, a2, a3 := some(api.AckType, five, 11), some(api.AckType, five, 12), some(api.AckType, five, 13)
	for _, green := range []bool{false, true} {
		x := lines.New(2)
		for _, s := range []api.Segment{d1, r, a1, d2, a2} {
			answers(t, x, 2, s, ok)
		}
		counts(t, x, 2, 5)
		counts(t, x, 3, 0)
		answers(t, x, 2, a3, full)
		answers(t, x, 3, a3, ok)
		answers(t, x, 0, a3, arg)
		comes(t, x, 2, 3, 11, 12, 4)
		answers(t, x, 2, a3, ok)
		want := 2
		if green {
			answers(t, x, 2, g, ok)
			want = 3
		}
		n := x.Drop(five, green)
		fatalIf(t, n != want, "Drop: %d, not %d", n, want)
		comes(t, x, 2, 0)
		comes(t, x, 9, 5)
		comes(t, x, 2, 9, 13)
	}
}

// New lines are empty, whatever the limit.
func TestP111NothingWaits(t *testing.T) {
	for _, limit := range []int{minInt, -top, -1, 0, 1, 2, 100, top, top + 1, maxInt} {
		x := lines.New(limit)
		for _, p := range []int{minInt, -1, 0, 1, 2, 8, top, top + 1, maxInt} {
			counts(t, x, p, 0)
			comes(t, x, p, maxInt)
		}
		n := x.Drop(session(1, 1), true) + x.Drop(session(1, 1), false) + x.Drop(api.Session{}, true)
		fatalIf(t, n != 0, "limit %d: of nothing %d were dropped", limit, n)
	}
}

// answerTypes are those of answers, otherTypes all others.
func answerTypes() []int { return []int{9, 13, 15} }
func otherTypes() []int  { return []int{0, 1, 2, 3, 4, 7, 8, 12, 14} }

// Below 1 no answer ever finds room; all else does.
func TestP111LimitsBelowOne(t *testing.T) {
	for _, limit := range []int{0, -1, -2, -top, minInt} {
		x := lines.New(limit)
		for round := range 3 {
			for _, kind := range answerTypes() {
				answers(t, x, 1, some(kind, session(1, 1), 0), full)
			}
			for _, kind := range otherTypes() {
				answers(t, x, 1, some(kind, session(1, 1), 0), ok)
			}
			for _, kind := range answerTypes() {
				answers(t, x, 1, some(kind, session(1, 1), 0), full)
			}
			if round == 1 {
				fatalIf(t, len(x.Take(1, 99)) != 18, "limit %d: not all came", limit)
				answers(t, x, 1, some(9, session(1, 1), 0), full)
			}
		}
	}
}

// As many answers find room as the limit says, one more does not: of all three types together, for each peer alone, whatever else waits.
func TestP112Limits(t *testing.T) {
	for _, limit := range []int{1, 2, 3, 7, 100} {
		x := lines.New(limit)
		for _, peer := range []int{1, 2, top} {
			for i := range limit {
				answers(t, x, peer, some(answerTypes()[i%3], session(1+i%2, 1+i%5), i), ok)
				for _, kind := range otherTypes() {
					answers(t, x, peer, some(kind, session(1, 1), 1000), ok)
				}
			}
			for _, kind := range answerTypes() {
				answers(t, x, peer, some(kind, session(1, 1), 0), full)
			}
			for _, kind := range otherTypes() {
				answers(t, x, peer, some(kind, session(1, 1), 1000), ok)
			}
		}
		for _, peer := range []int{top, 2, 1} {
			for i, s := range x.Take(peer, limit) {
				fatalIf(t, markOf(s) != i, "limit %d, peer %d: %v is not the answer %d", limit, peer, s, i)
			}
			counts(t, x, peer, (limit+1)*9)
		}
	}
}

// A limit that is never reached is none.
func TestP112GreatLimits(t *testing.T) {
	for _, limit := range []int{1000, 1 << 32, top, top + 1, maxInt} {
		x := lines.New(limit)
		for i := range 1000 {
			answers(t, x, 3, some(answerTypes()[i%3], session(1, 1), i), ok)
		}
		want := ok
		if limit == 1000 {
			want = full
		}
		answers(t, x, 3, some(9, session(1, 1), 0), want)
	}
}

// Once some were taken there is room for just as many.
func TestP112RoomOnceSomeWereTaken(t *testing.T) {
	for _, limit := range []int{1, 2, 5} {
		for taken := range limit + 3 {
			x := lines.New(limit)
			for i := range limit {
				answers(t, x, 4, some(9, session(1, 1), i), ok)
			}
			answers(t, x, 4, some(0, session(1, 1), 900), ok)
			answers(t, x, 4, some(8, session(1, 1), 901), ok)
			x.Take(4, taken)
			for i := range min(taken, limit) {
				answers(t, x, 4, some(13, session(1, 1), 100+i), ok)
			}
			answers(t, x, 4, some(15, session(1, 1), 0), full)
		}
	}
}

// Answers are not dropped, so Drop makes no room for them.
func TestP112NoRoomBehindDrop(t *testing.T) {
	x := lines.New(3)
	fill(t, x, 1, session(1, 1), 0)
	answers(t, x, 1, some(9, session(1, 1), 0), full)
	n := x.Drop(session(1, 1), true)
	fatalIf(t, n != 9, "Drop: %d", n)
	answers(t, x, 1, some(9, session(1, 1), 0), full)
	counts(t, x, 1, 3)
}

func TestP112Peers(t *testing.T) {
	x := lines.New(99)
	for _, p := range []int{1, 2, 9, 1 << 32, top - 1, top} {
		for i, kind := range types() {
			answers(t, x, p, some(kind, session(1, 1), i), ok)
		}
		counts(t, x, p, 12)
	}
	for _, p := range []int{minInt, -top, -1, 0, top + 1, top + 2, maxInt} {
		for _, kind := range types() {
			answers(t, x, p, some(kind, session(1, 1), 0), arg)
		}
		counts(t, x, p, 0)
		comes(t, x, p, 5)
	}
	for _, p := range []int{1, 2, 9, 1 << 32, top - 1, top} {
		comes(t, x, p, 99, 7, 9, 11, 6, 8, 10, 0, 1, 2, 3, 4, 5)
	}
}

// wrong is a segment that may not be, and why.
type wrong struct {
	s api.Segment
	e api.Errno
}

// bigData is a segment that has so many bytes in all.
func bigData(kind, bytes int) api.Segment {
	s := api.Segment{Type: kind, Session: session(1, 1)}
	head := 4 + 2 + 2 // version, session, extensions; service, offset; the length of Data
	if kind >= 1 && kind <= 3 {
		s.Check = 1
		head += 2
	}
	s.Data = make([]byte, bytes-head)
	return s
}

// wrongs are segments of each type that may not be, with each error that there is.
func wrongs() (l []wrong) {
	for _, kind := range []int{minInt, -1, 5, 6, 10, 11, 16, 17, 256, 265, 1<<32 + 9, maxInt} {
		l = append(l, wrong{api.Segment{Type: kind, Session: session(1, 1)}, api.ErrSegmentHead}, wrong{api.Segment{Type: kind}, api.ErrSegmentHead})
	}
	changes := []func(s *api.Segment){
		func(s *api.Segment) { s.Session.Origin = 0 },
		func(s *api.Segment) { s.Session.Origin = top + 1 },
		func(s *api.Segment) { s.Session.Number = 0 },
		func(s *api.Segment) { s.Session.Number = top },
		func(s *api.Segment) { s.Head[0].Tag = 256 },
		func(s *api.Segment) { s.Head = make([]api.Ext, 16) },
		func(s *api.Segment) { s.Tail = make([]api.Ext, 16) },
		func(s *api.Segment) { s.Tail = []api.Ext{{Data: make([]byte, 201)}} },
		func(s *api.Segment) { s.Service = -1 },
		func(s *api.Segment) { s.Offset = api.MaxBlock },
		func(s *api.Segment) { s.Check = -1 },
		func(s *api.Segment) { s.Report = top + 1 },
		func(s *api.Segment) { s.Upper = api.MaxBlock + 1 },
		func(s *api.Segment) { s.Lower = -1 },
		func(s *api.Segment) { s.Claims = []api.Span{{From: 3, To: 3}} },
		func(s *api.Segment) { s.Reason = 6 },
	}
	for _, kind := range types() {
		for _, change := range changes {
			s := some(kind, session(1, 1), 0)
			change(&s)
			l = append(l, wrong{s, api.ErrSegmentField})
		}
	}
	for _, kind := range []int{0, 1, 2, 3, 4, 7} {
		l = append(l, wrong{bigData(kind, api.MaxSegment+1), api.ErrBig})
	}
	return l
}

// What is not right is refused as chapter 2 says, and nothing waits of it.
func TestP112SegmentsThatAreNotRight(t *testing.T) {
	seen := map[api.Errno]int{}
	for _, w := range wrongs() {
		x := lines.New(9)
		answers(t, x, 1, w.s, w.e)
		fill(t, x, 1, session(1, 1), 0)
		answers(t, x, 1, w.s, w.e)
		comes(t, x, 1, 99, 7, 9, 11, 6, 8, 10, 0, 1, 2, 3, 4, 5)
		answers(t, x, top, w.s, w.e)
		fatalIf(t, x.Drop(session(1, 1), true) != 0, "%v: it waits", w.s)
		seen[w.e]++
	}
	fatalIf(t, len(seen) != 3, "the errors are %v", seen)
}

// What is at a limit is fine.
func TestP112SegmentsAtTheirLimits(t *testing.T) {
	x := lines.New(9)
	var want []api.Segment
	for _, kind := range []int{0, 1, 2, 3, 4, 7} {
		want = append(want, bigData(kind, api.MaxSegment))
	}
	exts := make([]api.Ext, 15)
	for i := range exts {
		exts[i] = api.Ext{Tag: 255 - i, Data: make([]byte, 200)}
	}
	s := some(0, session(top, top-1), 0)
	s.Head, s.Tail, s.Service, s.Offset = exts, exts, top, api.MaxBlock-3
	want = append(want, s)
	for _, s := range want {
		answers(t, x, 1, s, ok)
	}
	out := x.Take(1, 99)
	fatalIf(t, !sameAll(out, want), "other segments came")
}

// Of several errors the peer's is told first, then the segment's, then that there is no room.
func TestP112WhichErrorFirst(t *testing.T) {
	x := lines.New(0)
	for _, w := range wrongs() {
		for _, p := range []int{minInt, -1, 0, top + 1, maxInt} {
			answers(t, x, p, w.s, arg)
		}
		answers(t, x, 1, w.s, w.e)
	}
	answers(t, x, 0, some(9, session(1, 1), 0), arg)
	answers(t, x, 1, some(9, session(1, 1), 0), full)
}
