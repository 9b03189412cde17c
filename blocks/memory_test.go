package blocks_test

import (
	"bytes"
	"runtime"
	"slices"
	"testing"

	"lantern/api"
	"lantern/blocks"
)

// lent is a list with spare room behind it, all of it filled.
func lent[T any](l []T, fill T) []T {
	b := slices.Clone(l)
	for range 9 {
		b = append(b, fill)
	}
	return b[:len(l)]
}

// roomy is a list with its spare room.
func roomy[T any](l []T) []T { return l[:cap(l)] }

// scribble spoils a list and its spare room.
func scribble[T any](l []T, fill T) {
	for i := range roomy(l) {
		roomy(l)[i] = fill
	}
}

var (
	noSpan  = api.Span{From: -7, To: -9}
	noPiece = api.Piece{Type: -7, From: -7, To: -7, Check: -7, Report: -7}
)

func TestW6AgainTakesAndAnswers(t *testing.T) {
	p := small(2000, 1000, 0)
	for _, l := range [][]api.Span{spans(0, 1), spans(10, 300, 400, 401, 500, 1000), spans(0, 2, 2, 3), nil, spans(0, 1001)} {
		gaps := lent(l, span(70, 71))
		was := slices.Clone(roomy(gaps))
		got, e := blocks.Again(home, p, gaps, 1, 1)
		other, _ := blocks.Again(home, p, gaps, 1, 1)
		want := slices.Clone(got)
		if !same(roomy(gaps), was) {
			t.Errorf("Again(%v) changes what is handed in", l)
		}
		scribble(gaps, noSpan)
		scribble(other, noPiece)
		if !same(got, want) || e == api.OK && len(got) == 0 {
			t.Errorf("Again(%v): its answer hangs on memory that is another's", l)
		}
	}
}

func TestW6CutAnswers(t *testing.T) {
	for _, p := range []api.Parcel{small(2000, 1000, 2), small(2000, 0, 0), small(2000, 2000, 0), small(1, 1, 0)} {
		got, _ := blocks.Cut(home, p, 0)
		other, _ := blocks.Cut(home, p, 0)
		scribble(other, noPiece)
		if !same(got, modelCut(home, p, 0)) {
			t.Errorf("Cut(%v): two answers share memory", p)
		}
	}
}

func TestW6MakeTakesAndAnswers(t *testing.T) {
	p := small(200, 120, 0)
	for _, x := range []api.Piece{plain(0, 50), piece(2, 100, 120, 1, 0), piece(7, 120, 200, 0, 0), plain(0, 120), piece(4, 199, 200, 0, 0)} {
		block := lent(pattern(200), 99)
		was := slices.Clone(roomy(block))
		got, e := blocks.Make(home, p, x, block)
		other, _ := blocks.Make(home, p, x, block)
		scribble(other.Data, 77)
		if !bytes.Equal(roomy(block), was) {
			t.Errorf("Make of %v: what is handed in was changed, or is what is answered", x)
		}
		scribble(block, 88)
		if e == api.OK && !bytes.Equal(got.Data, pattern(200)[x.From:x.To]) {
			t.Errorf("Make of %v: its answer hangs on memory that is another's", x)
		}
	}
}

func TestW6BufferTakes(t *testing.T) {
	b, m := blocks.New(), &modelBuffer{}
	for _, at := range []int{10, 0, 30, 5, 25, whole - 8} {
		for _, call := range []func(int, []byte) (int, int, api.Errno){b.Look, b.Put} {
			data := lent([]byte{1, 2, 3, 4, 5, 6, 7, byte(at)}, 99)
			was := slices.Clone(roomy(data))
			call(at, data)
			if !bytes.Equal(roomy(data), was) {
				t.Errorf("at %d what is handed in is changed", at)
			}
			scribble(data, 88)
		}
		m.put(at, []byte{1, 2, 3, 4, 5, 6, 7, byte(at)})
		look(t, b, m) // what becomes of data later does not matter
	}
}

func TestW6BufferAnswers(t *testing.T) {
	b, m := blocks.New(), &modelBuffer{}
	for _, at := range []int{10, 0, 30, 5, 25, 40, 50, 60, whole - 8} {
		put(t, b, m, at, []byte{1, 2, 3, 4, 5, 6, 7, byte(at)})
		scribble(b.Have(), noSpan)
		for _, s := range m.have() {
			l, _ := b.Read(s)
			scribble(l, 77)
			part, _ := b.Read(span(s.From, s.From+1))
			scribble(part, 77)
		}
		look(t, b, m)
	}
}

// What was answered stays, whatever is done with the buffer later.
func TestW6BufferAnswersStay(t *testing.T) {
	b := blocks.New()
	b.Put(10, []byte{1, 2, 3})
	b.Put(20, []byte{4})
	have, wasHave := b.Have(), spans(10, 13, 20, 21)
	l, _ := b.Read(span(10, 13))
	unmoved := func(when string) {
		if !same(have, wasHave) || !bytes.Equal(l, []byte{1, 2, 3}) {
			t.Errorf("%s: Have is %v, Read %v", when, have, l)
		}
	}
	b.Put(5, bytes.Repeat([]byte{9}, 30))
	unmoved("behind Put")
	b.Drop()
	unmoved("behind Drop")
	b.Put(0, bytes.Repeat([]byte{8}, 100))
	unmoved("behind a Put behind Drop")
}

// A buffer that is dropped keeps no bytes, neither those that came nor those that come then.
func TestP46DropLetsMemoryGo(t *testing.T) {
	inUse := func() uint64 {
		var m runtime.MemStats
		runtime.GC()
		runtime.ReadMemStats(&m)
		return m.HeapAlloc
	}
	block, before := pattern(whole), inUse()
	var kept []*blocks.Buffer
	for range 256 {
		b := blocks.New()
		b.Put(0, block[:whole-1])
		b.Drop()
		b.Put(0, block)
		kept = append(kept, b)
	}
	after := inUse()
	if after > before && after-before > 64*whole {
		t.Errorf("%d dropped buffers keep %d bytes", len(kept), after-before)
	}
	runtime.KeepAlive(kept)
	runtime.KeepAlive(block)
}
