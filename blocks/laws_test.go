package blocks_test

import (
	"bytes"
	"math/rand"
	"testing"

	"lantern/api"
	"lantern/blocks"
	"lantern/claims"
	"lantern/segment"
)

// checkSegment tells whether a piece's segment is right and fits into what the link carries.
func checkSegment(t *testing.T, s api.Session, p api.Parcel, x api.Piece, block []byte) api.Segment {
	t.Helper()
	made, e := blocks.Make(s, p, x, block)
	fatalIf(t, e != api.OK, "Make(%v, %v): %d", p, x, e)
	b, e := segment.Print(made)
	fatalIf(t, e != api.OK || segment.Right(made) != api.OK || len(b) > p.Mtu, "the segment of %v of %v has %d bytes: %d", x, p, len(b), e)
	return made
}

// lawful are parcels of which the laws are tried, at each session of sessions.
func lawful() []api.Parcel {
	l := ends()
	r := rand.New(rand.NewSource(7))
	for range 150 {
		size := 1 + r.Intn(3000)
		p := api.Parcel{Service: r.Intn(300), Size: size, Red: r.Intn(size + 1), Mtu: api.MinMtu + r.Intn(200), Every: r.Intn(5)}
		l = append(l, p)
	}
	for size := 60; size < 90; size++ {
		l = append(l, small(size, size, 0), small(size, size-1, 1), small(size, size, 2))
	}
	return l
}

func TestP47PiecesOfCut(t *testing.T) {
	block := pattern(whole)
	for _, s := range sessions() {
		for _, p := range lawful() {
			for _, base := range []int{0, 125, top - whole} {
				l, e := blocks.Cut(s, p, base)
				fatalIf(t, e != api.OK, "Cut(%v, %v, %d): %d", s, p, base, e)
				at := 0
				for _, x := range l {
					fatalIf(t, x.From != at || x.To <= x.From, "Cut(%v): a break at %v", p, x)
					fatalIf(t, x.From < p.Red && x.To > p.Red, "Cut(%v): %v has bytes of both parts", p, x)
					fatalIf(t, (x.Type <= api.RedLast) != (x.From < p.Red), "Cut(%v): %v has the other colour", p, x)
					end := x.Type == api.RedEnd || x.Type == api.RedLast
					fatalIf(t, end != (p.Red > 0 && x.To == p.Red), "Cut(%v): the end of the red part: %v", p, x)
					fatalIf(t, end && x.Type != checkType(p, p.Red), "Cut(%v): the end's type: %v", p, x)
					checkSegment(t, s, p, x, block)
					at = x.To
				}
				fatalIf(t, at != p.Size, "Cut(%v) ends at %d", p, at)
			}
		}
	}
}

func TestP48PiecesOfAgain(t *testing.T) {
	block := pattern(whole)
	for _, s := range sessions() {
		for _, p := range lawful() {
			if p.Red == 0 {
				continue
			}
			for i, gaps := range gapLists(p.Red) {
				check, report := []int{1, 127, top}[i%3], []int{0, 128, top}[i/3%3]
				l, e := blocks.Again(s, p, gaps, check, report)
				fatalIf(t, e != api.OK || len(l) == 0, "Again(%v, %v): %d", p, head(gaps), e)
				var had []api.Span
				at := 0
				for j, x := range l {
					fatalIf(t, x.From < at, "Again(%v): %v is out of order", p, x)
					at = x.To
					had, _, e = claims.Add(had, span(x.From, x.To))
					fatalIf(t, e != api.OK, "Again(%v): %v is no span", p, x)
					fatalIf(t, isCheckpoint(x.Type) != (j == len(l)-1), "Again(%v): %v is a checkpoint, or is none", p, x)
					fatalIf(t, x.Type == api.RedPlain && x.To == p.Red, "Again(%v): %v ends at Red", p, x)
					checkSegment(t, s, p, x, block)
				}
				fatalIf(t, !same(had, gaps), "Again(%v, %v) has %v", p, head(gaps), head(had))
			}
		}
	}
}

// comes puts the data of pieces into a buffer, as they come out of their segments' bytes.
func comes(t *testing.T, b *blocks.Buffer, p api.Parcel, l []api.Piece, block []byte) {
	t.Helper()
	for _, x := range l {
		sent, _ := segment.Print(checkSegment(t, home, p, x, block))
		s, e := segment.Parse(sent)
		fatalIf(t, e != api.OK, "Parse: %d", e)
		_, clash, e := b.Put(s.Offset, s.Data)
		fatalIf(t, clash != 0 || e != api.OK, "Put of %v: %d clash, %d", x, clash, e)
	}
}

func redOf(l []api.Piece) (red []api.Piece) {
	for _, x := range l {
		if x.Type <= api.RedLast {
			red = append(red, x)
		}
	}
	return red
}

func checkWhole(t *testing.T, b *blocks.Buffer, p api.Parcel, block []byte) {
	t.Helper()
	red, ok := b.Read(span(0, p.Red))
	fatalIf(t, !ok || !bytes.Equal(red, block[:p.Red]) || !same(b.Have(), spans(0, p.Red)) || b.Held() != p.Red, "%v: the red part is not whole: Have %v", p, head(b.Have()))
}

func TestP49RedSegmentsAreTheRedPart(t *testing.T) {
	r := rand.New(rand.NewSource(9))
	block := pattern(whole)
	for _, p := range lawful() {
		if p.Red == 0 {
			continue
		}
		cut, _ := blocks.Cut(home, p, 0)
		red := redOf(cut)
		r.Shuffle(len(red), func(i, j int) { red[i], red[j] = red[j], red[i] })
		b := blocks.New()
		comes(t, b, p, append(red, red[:len(red)/2]...), block)
		checkWhole(t, b, p, block)
	}
}

// Some pieces come, the gaps are cut again, and of these some come, too, until all are there.
func TestP49GapsAreCutAgain(t *testing.T) {
	r := rand.New(rand.NewSource(10))
	block := pattern(whole)
	for _, p := range lawful() {
		if p.Red == 0 {
			continue
		}
		for _, rounds := range []int{0, 1, 3} {
			cut, _ := blocks.Cut(home, p, 0)
			b := blocks.New()
			comes(t, b, p, someOf(r, redOf(cut)), block)
			for range rounds {
				if again := missing(t, b, p); again != nil {
					comes(t, b, p, someOf(r, again), block)
				}
			}
			comes(t, b, p, missing(t, b, p), block)
			checkWhole(t, b, p, block)
		}
	}
}

func someOf(r *rand.Rand, l []api.Piece) (some []api.Piece) {
	for _, x := range l {
		if r.Intn(3) > 0 {
			some = append(some, x)
		}
	}
	return some
}

// missing cuts the gaps that a buffer leaves in the red part.
func missing(t *testing.T, b *blocks.Buffer, p api.Parcel) []api.Piece {
	t.Helper()
	gaps, e := claims.Gaps(b.Have(), span(0, p.Red))
	fatalIf(t, e != api.OK, "Gaps: %d", e)
	if len(gaps) == 0 {
		return nil
	}
	l, e := blocks.Again(home, p, gaps, 200, 3)
	fatalIf(t, e != api.OK, "Again: %d", e)
	return l
}

// Bytes of a block come as they like; what is read are the block's.
func TestP49WhateverComes(t *testing.T) {
	r := rand.New(rand.NewSource(11))
	block := pattern(500)
	for range 50 {
		b := blocks.New()
		for range 30 {
			from := r.Intn(len(block))
			to := min(len(block), from+1+r.Intn(40))
			_, clash, e := b.Put(from, block[from:to])
			fatalIf(t, clash != 0 || e != api.OK, "Put: %d clash, %d", clash, e)
			for _, s := range b.Have() {
				l, ok := b.Read(s)
				fatalIf(t, !ok || !bytes.Equal(l, block[s.From:s.To]), "Read(%v): %v", s, ok)
			}
		}
	}
}

// FuzzCut holds Cut, and Again of what a mask leaves, against the chapter, and puts the red part together.
func FuzzCut(f *testing.F) {
	f.Add(7, 100, 60, 80, 2, 0, 1, 5, []byte{5})
	f.Add(0, whole, whole, 4096, 0, top-whole, top, top-1, []byte{0xff, 0x0f})
	f.Fuzz(func(t *testing.T, service, size, red, mtu, every, base, origin, number int, mask []byte) {
		s := api.Session{Origin: origin, Number: number}
		p := api.Parcel{Service: service, Size: size, Red: red, Mtu: mtu, Every: every}
		l, e := blocks.Cut(s, p, base)
		if e != api.OK {
			return
		}
		fatalIf(t, !same(l, modelCut(s, p, base)), "Cut(%v, %v, %d): %v", s, p, base, head(l))
		block, b := pattern(size), blocks.New()
		for i, x := range redOf(l) {
			if i/8 < len(mask) && mask[i/8]>>(i%8)&1 == 1 {
				comes(t, b, p, []api.Piece{x}, block)
			}
		}
		if again := missing(t, b, p); again != nil {
			gaps, _ := claims.Gaps(b.Have(), span(0, red))
			fatalIf(t, !same(again, modelAgain(home, p, gaps, 200, 3)), "Again(%v, %v): %v", p, head(gaps), head(again))
			comes(t, b, p, again, block)
		}
		if red > 0 {
			checkWhole(t, b, p, block)
		}
	})
}

// FuzzBuffer holds a buffer against its model: of each three bytes a place, a length and a byte.
func FuzzBuffer(f *testing.F) {
	f.Add([]byte{3, 3, 1, 4, 3, 9, 0, 0, 0, 5, 8, 8}, false)
	f.Fuzz(func(t *testing.T, steps []byte, high bool) {
		b, m := blocks.New(), &modelBuffer{}
		for ; len(steps) >= 3; steps = steps[3:] {
			at, data := int(steps[0]), bytes.Repeat(steps[2:3], int(steps[1]%32))
			if high {
				at = whole - at
			}
			if steps[1] == 255 {
				b.Drop()
				m.dropped = true
			}
			put(t, b, m, at, data)
		}
	})
}
