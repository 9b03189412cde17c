package blocks_test

import (
	"testing"

	"lantern/api"
	"lantern/blocks"
)

func plain(from, to int) api.Piece { return api.Piece{From: from, To: to} }

func piece(kind, from, to, check, report int) api.Piece {
	return api.Piece{Type: kind, From: from, To: to, Check: check, Report: report}
}

func checkCut(t *testing.T, s api.Session, p api.Parcel, base int, want []api.Piece) {
	t.Helper()
	got, e := blocks.Cut(s, p, base)
	fatalIf(t, e != api.OK || !same(got, want), "Cut(%v, %v, %d): %v %d, not %v", s, p, base, head(got), e, head(want))
}

func TestP41CutExamples(t *testing.T) {
	for _, x := range []struct {
		p    api.Parcel
		base int
		want []api.Piece
	}{
		{small(100, 0, 0), 0, []api.Piece{piece(4, 0, 73, 0, 0), piece(7, 73, 100, 0, 0)}},
		{small(71, 71, 0), 0, []api.Piece{piece(3, 0, 71, 1, 0)}},
		{small(73, 72, 0), 0, []api.Piece{plain(0, 71), piece(2, 71, 72, 1, 0), piece(7, 72, 73, 0, 0)}},
		{small(72, 72, 0), 200, []api.Piece{plain(0, 71), piece(3, 71, 72, 201, 0)}},
		{small(200, 200, 1), 0, []api.Piece{piece(1, 0, 71, 1, 0), piece(1, 71, 142, 2, 0), piece(3, 142, 200, 3, 0)}},
		// A byte of the block, red or green.
		{small(1, 1, 0), 0, []api.Piece{piece(3, 0, 1, 1, 0)}},
		{small(1, 0, 1), 0, []api.Piece{piece(7, 0, 1, 0, 0)}},
		{small(2, 1, 1), 9, []api.Piece{piece(2, 0, 1, 10, 0), piece(7, 1, 2, 0, 0)}},
		// The green part ends where its room does, and one byte behind.
		{small(73, 0, 0), 0, []api.Piece{piece(7, 0, 73, 0, 0)}},
		{small(74, 0, 0), 0, []api.Piece{piece(4, 0, 73, 0, 0), piece(7, 73, 74, 0, 0)}},
		// A plain piece leaves one byte at least, even where it has room for all.
		{small(74, 74, 0), 0, []api.Piece{plain(0, 73), piece(3, 73, 74, 1, 0)}},
		{small(75, 75, 0), 0, []api.Piece{plain(0, 73), piece(3, 73, 75, 1, 0)}},
		// Every second and every third red piece is a checkpoint; the end is one, too.
		{small(300, 290, 2), 0, []api.Piece{plain(0, 73), piece(1, 73, 144, 1, 0), plain(144, 216), piece(1, 216, 286, 2, 0), piece(2, 286, 290, 3, 0), piece(7, 290, 300, 0, 0)}},
		{small(300, 300, 3), 0, []api.Piece{plain(0, 73), plain(73, 146), piece(1, 146, 216, 1, 0), plain(216, 288), piece(3, 288, 300, 2, 0)}},
		// What is left is one more than a checkpoint's room, where one is due: it is none of the end's type.
		{small(72, 72, 1), 0, []api.Piece{piece(1, 0, 71, 1, 0), piece(3, 71, 72, 2, 0)}},
	} {
		checkCut(t, home, x.p, x.base, x.want)
	}
}

// What is left is a checkpoint's room, one byte less and one more, where the check number has one byte, and two.
func TestP41WhatIsLeft(t *testing.T) {
	for _, x := range []struct{ base, room int }{{0, 71}, {126, 71}, {127, 70}, {16382, 70}, {16383, 69}, {top - whole, 63}} {
		for _, red := range []int{x.room - 1, x.room} {
			checkCut(t, home, small(red, red, 0), x.base, []api.Piece{piece(3, 0, red, x.base+1, 0)})
			checkCut(t, home, small(red+1, red, 0), x.base, []api.Piece{piece(2, 0, red, x.base+1, 0), piece(7, red, red+1, 0, 0)})
		}
		red := x.room + 1
		checkCut(t, home, small(red, red, 0), x.base, []api.Piece{plain(0, x.room), piece(3, x.room, red, x.base+1, 0)})
	}
}

// A checkpoint's number takes its room as it grows from one to the next.
func TestP41NumbersGrow(t *testing.T) {
	checkCut(t, home, small(142, 142, 1), 126, []api.Piece{piece(1, 0, 71, 127, 0), piece(1, 71, 141, 128, 0), piece(3, 141, 142, 129, 0)})
	// At 127 and 128 bytes of data their own number grows: a segment can be one byte below Mtu.
	for mtu, n := range map[int]int{133: 126, 134: 127, 135: 127, 136: 128} {
		p := api.Parcel{Service: 7, Size: 129, Mtu: mtu}
		checkCut(t, home, p, 0, []api.Piece{piece(4, 0, n, 0, 0), piece(7, n, 129, 0, 0)})
	}
}

// sessions are some whose numbers have few bytes, and many.
func sessions() []api.Session {
	return []api.Session{home, {Origin: 1, Number: 1}, {Origin: 127, Number: 128}, {Origin: top, Number: top - 1}}
}

func bases() []int {
	return []int{0, 1, 126, 127, 1<<14 - 3, 1<<56 - 2, top - whole - 1, top - whole}
}

func TestP41CutAgainstTheChapter(t *testing.T) {
	for _, s := range sessions() {
		for _, base := range bases() {
			for _, every := range []int{0, 1, 2, 5, whole} {
				for size := 1; size < 330; size += 1 + size/40 {
					for _, red := range []int{0, 1, size / 2, size - 1, size} {
						p := small(size, red, every)
						checkCut(t, s, p, base, modelCut(s, p, base))
					}
				}
			}
			for _, p := range ends() {
				checkCut(t, s, p, base, modelCut(s, p, base))
			}
		}
	}
	for mtu := api.MinMtu; mtu <= api.MaxMtu; mtu += 1 + mtu/100 {
		for _, red := range []int{0, 9000, 20000} {
			p := api.Parcel{Service: 300, Size: 20000, Red: red, Mtu: mtu, Every: 4}
			checkCut(t, home, p, 120, modelCut(home, p, 120))
		}
	}
}

func TestP41CutErrors(t *testing.T) {
	// Of what is wrong the leftmost is told.
	for _, s := range append(noSession(), home) {
		for _, p := range append(noParcel(), small(100, 60, 2)) {
			for _, base := range []int{-1, -top, 1<<63 - 1, top - whole + 1, top, 0, top - whole} {
				want := api.OK
				switch {
				case s != home:
					want = api.ErrArg
				case p != small(100, 60, 2):
					want = api.ErrBlocksPlan
				case base != 0 && base != top-whole:
					want = api.ErrArg
				}
				l, e := blocks.Cut(s, p, base)
				if e != want || (e != api.OK) != (l == nil) {
					t.Errorf("Cut(%v, %v, %d): %v %d, not %d", s, p, base, head(l), e, want)
				}
			}
		}
	}
}

func checkAgain(t *testing.T, s api.Session, p api.Parcel, gaps []api.Span, check, report int, want []api.Piece) {
	t.Helper()
	got, e := blocks.Again(s, p, gaps, check, report)
	fatalIf(t, e != api.OK || !same(got, want), "Again(%v, %v, %v, %d, %d): %v %d, not %v", s, p, head(gaps), check, report, head(got), e, head(want))
}

func TestP42AgainExamples(t *testing.T) {
	for _, x := range []struct {
		p    api.Parcel
		gaps []api.Span
		want []api.Piece
	}{
		{small(200, 200, 0), spans(10, 20, 30, 60), []api.Piece{plain(10, 20), piece(1, 30, 60, 9, 4)}},
		{small(200, 200, 0), spans(0, 72), []api.Piece{plain(0, 71), piece(1, 71, 72, 9, 4)}},
		{small(200, 200, 0), spans(0, 71), []api.Piece{piece(1, 0, 71, 9, 4)}},
		{small(200, 200, 0), spans(0, 70), []api.Piece{piece(1, 0, 70, 9, 4)}},
		{small(200, 200, 0), spans(0, 74), []api.Piece{plain(0, 73), piece(1, 73, 74, 9, 4)}},
		{small(200, 200, 0), spans(0, 75), []api.Piece{plain(0, 73), piece(1, 73, 75, 9, 4)}},
		// A gap that is not the last one has no byte left for a checkpoint.
		{small(200, 200, 0), spans(0, 73, 74, 75), []api.Piece{plain(0, 73), piece(1, 74, 75, 9, 4)}},
		{small(200, 200, 0), spans(0, 74, 75, 76), []api.Piece{plain(0, 73), plain(73, 74), piece(1, 75, 76, 9, 4)}},
		// Every is not asked.
		{small(200, 200, 1), spans(0, 146), []api.Piece{plain(0, 73), plain(73, 145), piece(1, 145, 146, 9, 4)}},
		// Where it ends at Red it is of the end's type; one byte ahead it is not.
		{small(200, 200, 0), spans(0, 1, 190, 200), []api.Piece{plain(0, 1), piece(3, 190, 200, 9, 4)}},
		{small(201, 200, 0), spans(199, 200), []api.Piece{piece(2, 199, 200, 9, 4)}},
		{small(201, 200, 0), spans(198, 199), []api.Piece{piece(1, 198, 199, 9, 4)}},
		{small(1, 1, 0), spans(0, 1), []api.Piece{piece(3, 0, 1, 9, 4)}},
	} {
		checkAgain(t, home, x.p, x.gaps, 9, 4, x.want)
	}
}

// The check and the report number take of the checkpoint's room, and of no other's.
func TestP42NumbersGrow(t *testing.T) {
	p := small(300, 300, 0)
	for _, x := range []struct{ check, report, room int }{{1, 0, 71}, {127, 127, 71}, {128, 127, 70}, {127, 128, 70}, {128, 128, 69}, {top, top, 55}} {
		checkAgain(t, home, p, spans(0, x.room), x.check, x.report, []api.Piece{piece(1, 0, x.room, x.check, x.report)})
		checkAgain(t, home, p, spans(0, x.room+1), x.check, x.report, []api.Piece{plain(0, x.room), piece(1, x.room, x.room+1, x.check, x.report)})
		checkAgain(t, home, p, spans(0, 73, 100, 101), x.check, x.report, []api.Piece{plain(0, 73), piece(1, 100, 101, x.check, x.report)})
	}
}

// gapLists are sets of gaps that lie within a red part.
func gapLists(red int) (l [][]api.Span) {
	l = append(l, spans(0, red), spans(0, 1), spans(red-1, red))
	if red > 2 {
		l = append(l, spans(1, red), spans(0, red-1), spans(0, 1, red-1, red))
	}
	for _, n := range []int{2, 7, limit} {
		if 2*n-1 <= red {
			l = append(l, comb(0, n), comb(red-2*n+1, n))
		}
	}
	for _, wide := range []int{70, 71, 72, 73, 74, 147} {
		var some []api.Span
		for at := 0; at+wide <= red && len(some) < limit; at += wide + 1 {
			some = append(some, span(at, at+wide))
		}
		if len(some) > 0 {
			l = append(l, some)
		}
	}
	return l
}

func TestP42AgainAgainstTheChapter(t *testing.T) {
	numbers := [][2]int{{1, 0}, {127, 128}, {top, top}, {top, 0}, {1, top}}
	for _, s := range sessions() {
		for _, n := range numbers {
			for red := 1; red < 330; red += 1 + red/20 {
				for _, size := range []int{red, red + 1} {
					for _, gaps := range gapLists(red) {
						p := small(size, red, 3)
						checkAgain(t, s, p, gaps, n[0], n[1], modelAgain(s, p, gaps, n[0], n[1]))
					}
				}
			}
			for _, p := range ends() {
				if p.Red == 0 {
					continue
				}
				for _, gaps := range gapLists(p.Red) {
					checkAgain(t, s, p, gaps, n[0], n[1], modelAgain(s, p, gaps, n[0], n[1]))
				}
			}
		}
	}
}

func TestP42MostGaps(t *testing.T) {
	p := small(2*limit, 2*limit-1, 0)
	l, e := blocks.Again(home, p, comb(0, limit), 1, 0)
	if e != api.OK || len(l) != limit || l[limit-1] != piece(2, 2*limit-2, 2*limit-1, 1, 0) || l[0] != plain(0, 1) {
		t.Errorf("Again of MaxSpans gaps: %v %d", head(l), e)
	}
}

// noGaps are lists that are no gaps of a red part of 60 bytes.
func noGaps() [][]api.Span {
	return [][]api.Span{
		nil, {}, spans(0, 61), spans(0, 1, 59, 61), spans(60, 61), spans(3, 3), spans(0, 2, 2, 4), spans(5, 6, 1, 2), spans(-1, 3), spans(9, 4), spans(0, top+1),
		spans(0, 70, 80, 90), spans(0, 90, 1, 2), spans(0, top), spans(1<<62, 1<<63-1),
	}
}

func TestP42AgainErrors(t *testing.T) {
	good, gaps := small(100, 60, 2), spans(1, 3, 5, 60)
	long := comb(0, limit+1)
	for i, s := range append(noSession(), home) {
		for j, p := range append(noParcel(), good) {
			for k, g := range append(noGaps(), gaps) {
				for _, check := range append(numberless(1), 1, top) {
					for _, report := range append(numberless(0), 0, top) {
						want := api.OK
						switch {
						case i < len(noSession()):
							want = api.ErrArg
						case j < len(noParcel()) || k < len(noGaps()):
							want = api.ErrBlocksPlan
						case check < 1 || check > top || report < 0 || report > top:
							want = api.ErrArg
						}
						l, e := blocks.Again(s, p, g, check, report)
						if e != want || (e != api.OK) != (l == nil) {
							t.Fatalf("Again(%v, %v, %v, %d, %d): %v %d, not %d", s, p, g, check, report, head(l), e, want)
						}
					}
				}
			}
			// Their number alone is asked first.
			for _, g := range [][]api.Span{long, make([]api.Span, limit+1)} {
				if l, e := blocks.Again(s, p, g, 1, 0); e != api.ErrLong || l != nil {
					t.Errorf("Again(%v, %v) of too many gaps: %d", s, p, e)
				}
			}
		}
	}
	if _, e := blocks.Again(home, good, make([]api.Span, limit), 1, 0); e != api.ErrBlocksPlan {
		t.Errorf("Again of MaxSpans spans that are no set: %d", e)
	}
	if _, e := blocks.Again(home, small(5, 0, 0), spans(0, 1), 1, 0); e != api.ErrBlocksPlan {
		t.Errorf("Again where there is no red part: %d", e)
	}
}
