package blocks_test

import (
	"bytes"
	"testing"

	"lantern/api"
	"lantern/blocks"
)

// wantSegment is what Make is to answer of a piece.
func wantSegment(s api.Session, p api.Parcel, x api.Piece, block []byte) api.Segment {
	return api.Segment{Type: x.Type, Session: s, Service: p.Service, Offset: x.From, Data: block[x.From:x.To], Check: x.Check, Report: x.Report}
}

func sameSegment(a, b api.Segment) bool {
	lists := len(a.Head) + len(b.Head) + len(a.Tail) + len(b.Tail) + len(a.Claims) + len(b.Claims)
	return lists == 0 && bytes.Equal(a.Data, b.Data) && a.Type == b.Type && a.Session == b.Session &&
		a.Service == b.Service && a.Offset == b.Offset && a.Check == b.Check && a.Report == b.Report &&
		a.Upper == b.Upper && a.Lower == b.Lower && a.Reason == b.Reason
}

func checkMake(t *testing.T, s api.Session, p api.Parcel, x api.Piece, block []byte) {
	t.Helper()
	got, e := blocks.Make(s, p, x, block)
	fatalIf(t, e != api.OK || !sameSegment(got, wantSegment(s, p, x, block)), "Make(%v, %v, %v): %v %d", s, p, x, got, e)
}

func checkNoMake(t *testing.T, s api.Session, p api.Parcel, x api.Piece, block []byte, want api.Errno) {
	t.Helper()
	got, e := blocks.Make(s, p, x, block)
	fatalIf(t, e != want || got.Data != nil || !sameSegment(got, api.Segment{}), "Make(%v, %v, %v) of %d bytes: %v %d, not %d", s, p, x, len(block), got, e, want)
}

func TestP43MakeExamples(t *testing.T) {
	block := pattern(200)
	all, some := small(200, 200, 0), small(200, 120, 0)
	for _, x := range []struct {
		p api.Parcel
		x api.Piece
	}{
		{all, plain(142, 199)},
		{all, piece(1, 0, 199, 1, 0)},
		{all, piece(3, 142, 200, 1, 0)},
		{all, piece(3, 0, 200, top, top)},
		{some, plain(0, 119)},
		{some, plain(118, 119)},
		{some, piece(1, 118, 119, top, 0)},
		{some, piece(2, 119, 120, 1, top)},
		{some, piece(4, 120, 121, 0, 0)},
		{some, piece(4, 120, 199, 0, 0)},
		{some, piece(7, 120, 200, 0, 0)},
		{some, piece(7, 199, 200, 0, 0)},
		{small(200, 0, 0), piece(7, 0, 200, 0, 0)},
		{small(200, 0, 0), piece(4, 0, 1, 0, 0)},
	} {
		checkMake(t, home, x.p, x.x, block)
		checkMake(t, api.Session{Origin: top, Number: top - 1}, x.p, x.x, block[:x.x.To])
	}
	for _, x := range []api.Piece{plain(142, 200), piece(2, 142, 200, 1, 0), piece(1, 142, 200, 1, 0), piece(3, 142, 199, 1, 0), piece(7, 142, 200, 0, 0)} {
		checkNoMake(t, home, all, x, block, api.ErrBlocksPlan)
	}
}

// A row of P4.3's table: which ends a type's pieces have, and whether they ask.
type row struct {
	kind int
	fits func(p api.Parcel, from, to int) bool
	asks bool
}

func rows() []row {
	return []row{
		{api.RedPlain, func(p api.Parcel, _, to int) bool { return to < p.Red }, false},
		{api.RedCheck, func(p api.Parcel, _, to int) bool { return to < p.Red }, true},
		{api.RedEnd, func(p api.Parcel, _, to int) bool { return to == p.Red && p.Red < p.Size }, true},
		{api.RedLast, func(p api.Parcel, _, to int) bool { return to == p.Red && p.Red == p.Size }, true},
		{api.GreenPlain, func(p api.Parcel, from, to int) bool { return p.Red <= from && to < p.Size }, false},
		{api.GreenLast, func(p api.Parcel, from, to int) bool { return p.Red <= from && to == p.Size }, false},
	}
}

func inTable(p api.Parcel, x api.Piece) bool {
	for _, r := range rows() {
		if r.kind != x.Type {
			continue
		}
		numbers := x.Check == 0 && x.Report == 0
		if r.asks {
			numbers = 1 <= x.Check && x.Check <= top && 0 <= x.Report && x.Report <= top
		}
		return 0 <= x.From && x.From < x.To && r.fits(p, x.From, x.To) && numbers
	}
	return false
}

// Every piece with small ends of every small parcel, of every type, with numbers at their limits.
func TestP43MakeAll(t *testing.T) {
	block := pattern(9)
	numbers := []int{-1, 0, 1, top, top + 1}
	for size := 1; size <= 4; size++ {
		for red := 0; red <= size; red++ {
			p := small(size, red, 0)
			for kind := -1; kind <= 16; kind++ {
				for from := -1; from <= size+1; from++ {
					for to := -1; to <= size+1; to++ {
						for _, check := range numbers {
							for _, report := range numbers {
								x := piece(kind, from, to, check, report)
								if inTable(p, x) {
									checkMake(t, home, p, x, block)
								} else {
									checkNoMake(t, home, p, x, block, api.ErrBlocksPlan)
								}
							}
						}
					}
				}
			}
		}
	}
}

func TestP43MakeOddNumbers(t *testing.T) {
	p, block := small(200, 120, 0), pattern(200)
	least := -1 << 63
	for _, x := range []api.Piece{plain(least, 5), plain(5, 1<<63-1), plain(least, 1<<63-1), plain(1<<63-1, least), piece(1, 0, 5, least, 0), piece(1, 0, 5, 1, least), piece(1<<62, 0, 5, 0, 0), piece(-1<<62, 0, 5, 0, 0), piece(256, 0, 5, 0, 0)} {
		checkNoMake(t, home, p, x, block, api.ErrBlocksPlan)
	}
}

func TestP43MakeErrors(t *testing.T) {
	good, fine := small(100, 60, 2), piece(2, 20, 60, 1, 0)
	pieces := []api.Piece{fine, plain(20, 60), piece(2, 60, 60, 1, 0), piece(2, 20, 60, 0, 0), {}}
	for _, s := range append(noSession(), home) {
		for _, p := range append(noParcel(), good) {
			for _, x := range pieces {
				for _, n := range []int{whole + 1, 59, 0} {
					want := api.ErrArg
					switch {
					case n > whole:
						want = api.ErrLong
					case s != home:
					case p != good || x != fine:
						want = api.ErrBlocksPlan
					}
					checkNoMake(t, s, p, x, make([]byte, n), want)
				}
			}
		}
	}
	// It is asked for bytes up to To, not up to Size; what is behind Size does no harm.
	for _, n := range []int{60, 61, 99, 100, 101, whole} {
		checkMake(t, home, good, fine, pattern(n))
	}
	checkNoMake(t, home, good, fine, nil, api.ErrArg)
}

// Mtu is not asked.
func TestP43MakeOfAWholeBlock(t *testing.T) {
	p := api.Parcel{Size: whole, Red: whole, Mtu: api.MinMtu}
	checkMake(t, home, p, piece(3, 0, whole, 1, 0), pattern(whole))
	checkMake(t, home, p, piece(1, 0, whole-1, 1, 0), pattern(whole))
	p.Red = 0
	checkMake(t, home, p, piece(7, 0, whole, 0, 0), pattern(whole))
}
