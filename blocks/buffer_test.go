package blocks_test

import (
	"bytes"
	"math/rand"
	"slices"
	"testing"

	"lantern/api"
	"lantern/blocks"
)

// look holds all that can be asked of a buffer against its model.
func look(t *testing.T, b *blocks.Buffer, m *modelBuffer) {
	t.Helper()
	have := m.have()
	fatalIf(t, !same(b.Have(), have), "Have: %v, not %v", head(b.Have()), head(have))
	fatalIf(t, b.Held() != m.count(), "Held: %d, not %d", b.Held(), m.count())
	for _, s := range have[:min(len(have), 5)] {
		for _, d := range []api.Span{{}, {From: -1}, {To: 1}, {From: 1}, {To: -1}, {From: 1, To: -1}} {
			checkRead(t, b, m, span(s.From+d.From, s.To+d.To))
		}
	}
}

func checkRead(t *testing.T, b *blocks.Buffer, m *modelBuffer, s api.Span) {
	t.Helper()
	got, ok := b.Read(s)
	want, yes := m.read(s)
	fatalIf(t, ok != yes || !bytes.Equal(got, want) || !ok && got != nil, "Read(%v): %d bytes %v, not %d %v", s, len(got), ok, len(want), yes)
}

// put puts bytes into a buffer and its model, and holds what is told of it against each other, Look's answer too.
func put(t *testing.T, b *blocks.Buffer, m *modelBuffer, at int, data []byte) {
	t.Helper()
	fresh, clash, e := b.Look(at, data)
	if len(m.have()) < 20 { // Look changed nothing
		look(t, b, m)
	}
	n, k, f := m.put(at, data)
	fatalIf(t, fresh != n || clash != k || e != f, "Look(%d, %d bytes): %d %d %d, not %d %d %d", at, len(data), fresh, clash, e, n, k, f)
	fresh, clash, e = b.Put(at, data)
	fatalIf(t, fresh != n || clash != k || e != f, "Put(%d, %d bytes): %d %d %d, not %d %d %d", at, len(data), fresh, clash, e, n, k, f)
	look(t, b, m)
}

func checkPut(t *testing.T, b *blocks.Buffer, at int, data []byte, fresh, clash int, e api.Errno) {
	t.Helper()
	for _, call := range []func(int, []byte) (int, int, api.Errno){b.Look, b.Put} {
		n, k, f := call(at, data)
		if n != fresh || k != clash || f != e {
			t.Errorf("of %d bytes at %d: %d %d %d, not %d %d %d", len(data), at, n, k, f, fresh, clash, e)
		}
	}
}

func TestP44New(t *testing.T) {
	b := blocks.New()
	if b == nil || len(b.Have()) != 0 || b.Held() != 0 {
		t.Fatal("a new buffer has bytes")
	}
	for _, s := range spans(0, 1, 0, 0, 0, whole, whole-1, whole) {
		if l, ok := b.Read(s); ok || l != nil {
			t.Errorf("Read(%v): %v", s, l)
		}
	}
	b.Drop()
	if len(b.Have()) != 0 || b.Held() != 0 {
		t.Error("a new buffer that is dropped has bytes")
	}
}

func TestP45Examples(t *testing.T) {
	b := blocks.New()
	checkPut(t, b, 3, []byte{1, 2, 3}, 3, 0, 0)
	checkPut(t, b, 4, []byte{9, 3, 4}, 1, 1, 0)
	if l := b.Have(); !same(l, spans(3, 7)) || b.Held() != 4 {
		t.Errorf("Have %v, Held %d", l, b.Held())
	}
	if l, ok := b.Read(span(3, 7)); !ok || !bytes.Equal(l, []byte{1, 2, 3, 4}) {
		t.Errorf("Read: %v %v", l, ok)
	}
	for _, s := range spans(2, 4, 4, 4, 5, 4, 6, 8, -1, 4, 3, 1<<62, -1<<63, 1<<63-1) {
		if l, ok := b.Read(s); ok || l != nil {
			t.Errorf("Read(%v): %v %v", s, l, ok)
		}
	}
	b.Drop()
	if b.Held() != 0 || !same(b.Have(), spans(3, 7)) {
		t.Errorf("behind Drop: Have %v, Held %d", b.Have(), b.Held())
	}
	checkPut(t, b, 5, []byte{8, 8, 8}, 1, 0, 0)
	if !same(b.Have(), spans(3, 8)) || b.Held() != 0 {
		t.Errorf("Have %v, Held %d", b.Have(), b.Held())
	}
	for _, s := range spans(3, 4, 7, 8, 3, 8) {
		if l, ok := b.Read(s); ok || l != nil {
			t.Errorf("Read(%v) behind Drop: %v", s, l)
		}
	}
}

func TestP45PutErrors(t *testing.T) {
	b := blocks.New()
	b.Put(7, []byte{1})
	byteAt, all, long := []byte{1}, make([]byte, whole), make([]byte, whole+1)
	for _, x := range []struct {
		at   int
		data []byte
		e    api.Errno
	}{
		{0, long, api.ErrLong}, {-1, long, api.ErrLong}, {whole, long, api.ErrLong}, // their length is asked first
		{0, nil, api.ErrArg}, {0, []byte{}, api.ErrArg}, {7, nil, api.ErrArg}, {whole, nil, api.ErrArg}, {-1, nil, api.ErrArg},
		{-1, byteAt, api.ErrArg}, {-1, []byte{1, 2}, api.ErrArg}, {whole, byteAt, api.ErrArg}, {whole - 1, []byte{1, 2}, api.ErrArg},
		{1, all, api.ErrArg}, {-1, all, api.ErrArg}, {1<<63 - 1, byteAt, api.ErrArg}, {-1 << 63, byteAt, api.ErrArg}, {1<<63 - 1, all, api.ErrArg},
	} {
		checkPut(t, b, x.at, x.data, 0, 0, x.e)
	}
	if !same(b.Have(), spans(7, 8)) || b.Held() != 1 {
		t.Errorf("an error has changed what is there: %v", b.Have())
	}
}

func TestP45Ends(t *testing.T) {
	b, m := blocks.New(), &modelBuffer{}
	put(t, b, m, whole-1, []byte{5})
	put(t, b, m, 0, []byte{6})
	put(t, b, m, 0, pattern(whole))
	put(t, b, m, 0, pattern(whole))
	checkRead(t, b, m, span(0, whole))
	checkRead(t, b, m, span(0, whole+1))
	checkRead(t, b, m, span(-1, whole))
	checkRead(t, b, m, span(whole, whole))
	checkRead(t, b, m, span(whole-1, whole))
	put(t, b, m, 0, make([]byte, whole))
	if l, ok := b.Read(span(0, whole)); !ok || l[0] != 6 || l[whole-1] != 5 || l[300] != pattern(whole)[300] {
		t.Error("what came first has not stayed")
	}
	b.Drop()
	m.dropped = true
	put(t, b, m, 0, make([]byte, whole))
	checkPut(t, b, 0, make([]byte, whole), 0, 0, 0)
}

// What came first stays, a byte 0 too: it is another one than what did not come.
func TestP45FirstStays(t *testing.T) {
	b, m := blocks.New(), &modelBuffer{}
	put(t, b, m, 10, []byte{0, 0})
	put(t, b, m, 20, []byte{7})
	checkPut(t, b, 8, []byte{1, 1, 1, 0, 1, 1}, 4, 1, 0)
	m.put(8, []byte{1, 1, 1, 0, 1, 1})
	look(t, b, m)
	if l, _ := b.Read(span(8, 14)); !bytes.Equal(l, []byte{1, 1, 0, 0, 1, 1}) {
		t.Errorf("Read: %v", l)
	}
	put(t, b, m, 0, bytes.Repeat([]byte{7}, 30)) // over several spans and gaps at one time
	put(t, b, m, 5, bytes.Repeat([]byte{8}, 30))
}

func TestP45MostSpans(t *testing.T) {
	for _, dropped := range []bool{false, true} {
		b := blocks.New()
		m := &modelBuffer{dropped: dropped}
		if dropped {
			b.Drop()
		}
		for _, s := range comb(1, limit) {
			n, k, e := b.Put(s.From, []byte{byte(s.From)})
			m.mark(s.From, byte(s.From))
			fatalIf(t, n != 1 || k != 0 || e != api.OK, "Put(%d): %d %d %d", s.From, n, k, e)
		}
		last := 2*limit - 1 // the last place to which a byte came
		put(t, b, m, last+2, []byte{1})
		put(t, b, m, whole-1, []byte{1})
		checkPut(t, b, last+2, []byte{1}, 0, 0, api.ErrBig)
		fatalIf(t, len(b.Have()) != limit, "ErrBig has changed what is there")
		put(t, b, m, 1, []byte{9})       // a byte that came is no new span
		put(t, b, m, 0, []byte{9})       // nor is one that touches
		put(t, b, m, last+1, []byte{4})  // nor one at the other end
		put(t, b, m, 8, []byte{8, 7, 6}) // three become one,
		put(t, b, m, whole-2, []byte{3}) // so there is room for two,
		put(t, b, m, whole-5, []byte{3})
		checkPut(t, b, whole-7, []byte{3}, 0, 0, api.ErrBig) // and no more
		put(t, b, m, 2, make([]byte, whole-2))
	}
}

// mark puts one byte, without counting how many spans there are then.
func (m *modelBuffer) mark(at int, c byte) { m.came[at], m.held[at] = true, c }

func TestP45And6Drawn(t *testing.T) {
	r := rand.New(rand.NewSource(4))
	for round := range 60 {
		b, m := blocks.New(), &modelBuffer{}
		for step := range 25 {
			if step == 15 && round%3 == 0 {
				b.Drop()
				m.dropped = true
			}
			if step == 18 && round%6 == 0 {
				b.Drop() // once more
			}
			at, data := r.Intn(60), make([]byte, r.Intn(9))
			if round%4 == 3 {
				at = whole - at
			}
			for i := range data {
				data[i] = byte(r.Intn(3))
			}
			put(t, b, m, at, data)
		}
		for range 40 {
			from := r.Intn(70)
			checkRead(t, b, m, span(from, from+r.Intn(9)-1))
		}
	}
}

func TestP46ReadOfEverySpan(t *testing.T) {
	b, m := blocks.New(), &modelBuffer{}
	put(t, b, m, 2, []byte{1, 2, 3})
	put(t, b, m, 6, []byte{4})
	for from := -2; from < 10; from++ {
		for to := -2; to < 10; to++ {
			checkRead(t, b, m, span(from, to))
		}
	}
}

// Drop, and what comes behind it, leaves other buffers as they are; so do all other calls.
func TestP46BuffersApart(t *testing.T) {
	a, b := blocks.New(), blocks.New()
	m, n := &modelBuffer{}, &modelBuffer{}
	put(t, a, m, 3, []byte{1, 2, 3})
	look(t, b, n)
	put(t, b, n, 4, []byte{9, 9})
	look(t, a, m)
	put(t, a, m, 0, []byte{5, 5, 5, 5, 5, 5, 5, 5})
	look(t, b, n)
	b.Drop()
	n.dropped = true
	look(t, a, m)
	put(t, b, n, 0, []byte{7, 7, 7})
	look(t, a, m)
	put(t, a, m, 10, []byte{8})
	look(t, b, n)
	look(t, blocks.New(), &modelBuffer{})
	if a == b || !slices.Equal(a.Have(), spans(0, 8, 10, 11)) {
		t.Errorf("Have: %v", a.Have())
	}
}
