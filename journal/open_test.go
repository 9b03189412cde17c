package journal_test

import (
	"bytes"
	"slices"
	"testing"

	"lantern/api"
	"lantern/disk"
	"lantern/journal"
	"lantern/record"
)

// wide is room enough for whatever a test does.
const wide = 1 << 30

// look holds a journal and its only file against numbers.
func look(t *testing.T, h *disk.Hand, j *journal.Journal, bytes, safe, loose int) {
	t.Helper()
	f := h.Files()
	fatalIf(t, len(f) != 1 || f[0].Name != old || len(f[0].Bytes) != bytes || f[0].Safe != safe, "the files are %v", f)
	fatalIf(t, j.Size() != bytes || j.Loose() != loose, "Size %d, Loose %d, not %d, %d", j.Size(), j.Loose(), bytes, loose)
}

func mustOpen(t *testing.T, h *disk.Hand) (*journal.Journal, []api.Record) {
	t.Helper()
	j, l, err := journal.Open(h.Disk())
	fatalIf(t, err != nil || j == nil, "Open: %v", err)
	return j, l
}

func TestP71EmptyDisk(t *testing.T) {
	for _, room := range []int{-1, 0, 5, wide} {
		h := disk.New(room)
		j, l := mustOpen(t, h)
		fatalIf(t, len(l) != 0 || j.Size() != 0 || j.Loose() != 0 || len(h.Files()) != 0, "%v %d %d %v", l, j.Size(), j.Loose(), h.Files())
		// No act is needed: a disk that would go down on the first one does not.
		h.Arm(0, true)
		mustOpen(t, h)
		fatalIf(t, h.Down() || len(h.Files()) != 0, "Open of an empty disk does an act: %v", h.Files())
	}
}

// The numbers of a journal that is found whole: nobody knows what of it is safe.
func TestP71Whole(t *testing.T) {
	b := frames(row(300, 3)...)
	for safe := range len(b) + 1 {
		h := disk.New(wide)
		put(old, b, safe)(h)
		h.Arm(0, false)
		j, l := mustOpen(t, h)
		fatalIf(t, h.Down() || !slices.Equal(sizes(l), []int{300, 301, 302}), "told %v, down %v", sizes(l), h.Down())
		look(t, h, j, 33, safe, 33)
	}
}

func TestP71NoBytes(t *testing.T) {
	h := disk.New(wide)
	put(old, nil, 0)(h)
	h.Arm(0, false)
	j, l := mustOpen(t, h)
	fatalIf(t, h.Down() || len(l) != 0, "told %v, down %v", l, h.Down())
	look(t, h, j, 0, 0, 0)
}

// Torn at every place, each number of its bytes safe: it is cut to what is whole, which is safe then.
func TestP71Torn(t *testing.T) {
	b := frames(row(300, 3)...)
	for n := range len(b) {
		for _, safe := range []int{0, n / 2, n} {
			h := disk.New(wide)
			put(old, b[:n], safe)(h)
			j, l := mustOpen(t, h)
			whole := n / 11
			fatalIf(t, !sameAll(l, row(300, whole)), "%d bytes: told %v", n, sizes(l))
			if n%11 == 0 {
				look(t, h, j, n, safe, n)
			} else {
				look(t, h, j, 11*whole, 11*whole, 0)
			}
		}
	}
}

// garbage is what can stand behind frames, and begins with no frame.
func garbage() [][]byte {
	one := frames(next(300))
	turned := func(at int) []byte {
		b := slices.Clone(one)
		b[at] ^= 1
		return b
	}
	return [][]byte{{0}, {255}, make([]byte, 8), make([]byte, 50), bytes.Repeat([]byte{255}, 50), some(300), one[1:], one[:10], turned(0), turned(3), turned(4), turned(7), turned(8), turned(10), slices.Concat(turned(9), one, one)}
}

// Files that others wrote on, with a journal.new of whatever bytes beside, ahead of it or behind.
func TestP71FilesOfOthers(t *testing.T) {
	for _, whole := range [][]api.Record{nil, row(300, 1), kit()} {
		for _, rest := range append(garbage(), nil) {
			b := append(frames(whole...), rest...)
			for _, beside := range [][]byte{nil, {0}, frames(next(9)), frames(kit()...), b} {
				for _, starts := range [][]func(*disk.Hand){
					{put(old, b, 0)},
					{put(old, b, len(b)), put(fresh, beside, 0)},
					{put(fresh, beside, len(beside)), put(old, b, len(b)/2)},
					{put("other", some(9), 1), put(fresh, beside, 0), put("journal.old", b, 0), put(old, b, 0), put("", nil, 0)},
					{put(fresh, beside, 0)},
				} {
					p := newPair(t, wide, starts...)
					_, is := has(p.hand, old)
					l := p.open()
					fatalIf(t, is && !sameAll(l, whole) || !is && len(l) != 0, "told %v, not %v", sizes(l), sizes(whole))
					left, _ := has(p.hand, old)
					_, rests := has(p.hand, fresh)
					fatalIf(t, rests || is && !bytes.Equal(left, frames(whole...)), "the files are %v", p.hand.Files())
				}
			}
		}
	}
}

func TestP71GreatJournal(t *testing.T) {
	var l []api.Record
	for i := range 20000 {
		l = append(l, next(1+i))
	}
	great := api.Record{Kind: api.RecRed, Session: api.Session{Origin: 1, Number: 2}, Data: some(api.MaxBlock)}
	l = append(l, great, next(5), great)
	b := frames(l...)
	p := newPair(t, wide, put(old, b, 0))
	fatalIf(t, !sameAll(p.open(), l), "a great journal is told otherwise")
	p = newPair(t, wide, put(old, b[:len(b)-1], 0))
	fatalIf(t, !sameAll(p.open(), l[:len(l)-1]), "a great journal that is torn is told otherwise")
}

// Each act of Open refused, done or not: the answer is ErrDown, with nothing beside, and no act behind it.
func TestP71GoesDown(t *testing.T) {
	b := append(frames(row(300, 2)...), 1, 2, 3)
	start := []func(*disk.Hand){put(old, b, 5), put(fresh, frames(next(9)), 3)}
	for k := range 4 {
		for _, done := range []bool{false, true} {
			p := newPair(t, wide, start...)
			p.both(func(h *disk.Hand) { h.Arm(k, done) })
			p.open()
			fatalIf(t, p.hand.Down() != (k < 2), "armed for %d: down %v", k, p.hand.Down())
			_, rests := has(p.hand, fresh)
			left, _ := has(p.hand, old)
			fatalIf(t, rests != (k == 0 && !done), "armed for %d %v: journal.new is there: %v", k, done, rests)
			fatalIf(t, (len(left) == 25) != (k == 0 || k == 1 && !done), "armed for %d %v: %d bytes", k, done, len(left))
		}
	}
}

// A disk that is down already, whatever stands on it.
func TestP71Down(t *testing.T) {
	for _, starts := range [][]func(*disk.Hand){nil, {put(old, frames(next(1)), 0)}, {put(fresh, nil, 0)}, {put(old, some(9), 9), put(fresh, some(9), 9)}} {
		h := disk.New(wide)
		for _, start := range starts {
			start(h)
		}
		was := h.Files()
		h.Arm(0, false)
		fatalIf(t, h.Disk().Append("other", nil) != disk.ErrDown, "the disk is not down")
		for range 2 {
			j, l, err := journal.Open(h.Disk())
			fatalIf(t, j != nil || l != nil || disk.Number(err) != api.ErrDown, "Open: %v %v %v", j, l, err)
			fatalIf(t, !slices.EqualFunc(h.Files(), was, sameFile), "the files are %v", h.Files())
		}
	}
}

// P7.7, without a loss of power, and with one at every act of the first Open: all that is there is safe, and so told again.
func TestP77OpenBehindOpen(t *testing.T) {
	for _, whole := range [][]api.Record{nil, row(300, 2), kit()} {
		for _, rest := range append(garbage(), nil) {
			b := append(frames(whole...), rest...)
			for k := range 4 {
				for _, done := range []bool{false, true} {
					for _, keep := range []int{0, 1, wide} {
						p := newPair(t, wide, put(fresh, some(20), 7), put(old, b, len(b)))
						p.both(func(h *disk.Hand) { h.Arm(k, done) })
						p.open()
						p.both(func(h *disk.Hand) { h.Crash(keep) })
						opensAlike(p, whole)
						opensAlike(p, whole)
					}
				}
			}
		}
	}
}

// opensAlike opens a journal that is to have these records, and nothing else beside it.
func opensAlike(p *pair, want []api.Record) {
	p.t.Helper()
	l := p.open()
	fatalIf(p.t, !sameAll(l, want), "%v: told %v, not %v", p.done, sizes(l), sizes(want))
	checkClean(p.t, p.hand)
}

// checkClean: behind an Open there is no journal.new, and journal has whole frames alone.
func checkClean(t *testing.T, h *disk.Hand) {
	t.Helper()
	_, rests := has(h, fresh)
	b, _ := has(h, old)
	_, n := record.Scan(b)
	fatalIf(t, rests || n != len(b), "the files are %v", h.Files())
}
