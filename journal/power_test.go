package journal_test

import (
	"testing"

	"lantern/api"
	"lantern/disk"
	"lantern/journal"
)

// step is something that is done with a pair.
type step func(*pair)

// writes, rewrites: steps of that many records; each record has a size of its own, so that one in another's place is seen.
func writes(count int, sync bool) step {
	return func(p *pair) { p.write(row(130+10*len(p.done), count), sync) }
}

func rewrites(count int) step {
	return func(p *pair) { p.rewrite(row(1000+10*len(p.done), count)) }
}

func opens(p *pair) { p.open() }

// crashes is a loss of power, and an Open behind it.
func crashes(keep int) step {
	return func(p *pair) {
		p.say("crash")
		p.both(func(h *disk.Hand) { h.Crash(keep) })
		p.open()
	}
}

// spoils: while no journal is open, another one writes something behind it and beside it.
func spoils(p *pair) {
	p.say("spoilt")
	p.both(func(h *disk.Hand) {
		h.Disk().Append(old, []byte{0, 0, 0})
		h.Disk().Append(fresh, frames(next(77)))
	})
	p.open()
}

func refused(p *pair) {
	l := []api.Record{next(300), {Kind: 99}}
	p.write(l, true)
	p.rewrite(l)
}

func steps() []step {
	return []step{
		writes(0, false), writes(0, true), writes(1, false), writes(1, true), writes(2, false), writes(2, true),
		rewrites(0), rewrites(1), rewrites(3), refused, opens, crashes(0), crashes(13), crashes(wide), spoils,
	}
}

func starts() [][]func(*disk.Hand) {
	two := frames(row(500, 2)...)
	return [][]func(*disk.Hand){
		nil,
		{put(old, two, 22)},
		{put(old, two, 4)},
		{put(old, append(two, 9, 9), 0)},
		{put("other", some(5), 0), put(fresh, two[:5], 0), put(old, two, 11)},
		{put(old, nil, 0), put(fresh, nil, 0)},
	}
}

// each goes through all rows of so many steps.
func each(count int, do func([]step)) {
	row := make([]step, count)
	var fill func(i int)
	fill = func(i int) {
		if i == count {
			do(row)
			return
		}
		for _, s := range steps() {
			row[i] = s
			fill(i + 1)
		}
	}
	fill(0)
}

// play does a row of steps behind an Open, on disks that are armed (acts below 0: they are not); it tells whether they went down.
func play(t *testing.T, room int, start []func(*disk.Hand), row []step, acts int, done bool) bool {
	p := newPair(t, room, start...)
	down := false
	for _, s := range append([]step{opens}, row...) {
		if acts >= 0 && len(p.done) == 0 {
			p.both(func(h *disk.Hand) { h.Arm(acts, done) })
		}
		s(p)
		down = down || p.hand.Down()
	}
	return down
}

// playAll plays a row with no arming, and with the disks going down at each act that there is, done and not done; the one past the last is armed for, too: no act may be there.
func playAll(t *testing.T, room int, start []func(*disk.Hand), row []step) {
	play(t, room, start, row, -1, false)
	for _, done := range []bool{false, true} {
		for acts := 0; play(t, room, start, row, acts, done); acts++ {
		}
	}
}

// All rows of two steps, and of three on an empty disk.
func TestP75EveryRow(t *testing.T) {
	for _, start := range starts() {
		each(2, func(row []step) { playAll(t, wide, start, row) })
	}
	each(3, func(row []step) { playAll(t, wide, nil, row) })
}

// The same on disks with little room, each number of bytes of it.
func TestP75EveryRoom(t *testing.T) {
	for room := range 80 {
		each(2, func(row []step) { playAll(t, room, nil, row) })
	}
	two := []func(*disk.Hand){put(old, frames(row(500, 2)...), 22)}
	for room := 22; room < 70; room++ {
		each(2, func(row []step) { playAll(t, room, two, row) })
	}
}

// past is what P7.6 says of a journal whose power is lost.
type past struct {
	safe, since []api.Record
	instead     []api.Record // of the Rewrite in which the power went
	rewriting   bool
}

// allows tells whether an Open may tell these records.
func (w past) allows(l []api.Record) bool {
	if w.rewriting && sameAll(l, w.instead) {
		return true
	}
	n := len(l) - len(w.safe)
	return n >= 0 && n <= len(w.since) && sameAll(l[:len(w.safe)], w.safe) && sameAll(l[len(w.safe):], w.since[:n])
}

// deed is a call of P7.6: by its letter.
func (w *past) deed(j *journal.Journal, letter byte, at int) error {
	l := row(130+10*at, map[byte]int{'w': 1, 'v': 2, 's': 1, 'S': 3, 'n': 0, 'r': 1, 'R': 3, 'e': 0}[letter])
	switch letter {
	case 'w', 'v', 's', 'S', 'n':
		sync := letter == 's' || letter == 'S' || letter == 'n'
		w.since = append(w.since, l...)
		if err := j.Write(l, sync); err != nil {
			return err
		}
		if sync {
			w.safe, w.since = append(w.safe, w.since...), nil
		}
	default:
		w.instead, w.rewriting = l, true
		if err := j.Rewrite(l); err != nil {
			return err
		}
		*w = past{safe: l}
	}
	return nil
}

// deeds are all words of so many letters.
func deeds(count int) []string {
	l := []string{""}
	for range count {
		var more []string
		for _, word := range l {
			for _, c := range "wvsSnrRe" {
				more = append(more, word+string(c))
			}
		}
		l = more
	}
	return l
}

// lose plays a word until the power goes, and tells what may be told behind that; did tells whether it went.
func lose(t *testing.T, word string, acts int, done bool) (h *disk.Hand, w past, did bool) {
	h = disk.New(wide)
	j, _ := mustOpen(t, h)
	h.Arm(acts, done)
	for i := range len(word) {
		if err := w.deed(j, word[i], i); err != nil {
			wants(t, err, api.ErrDown)
			return h, w, true
		}
	}
	return h, w, false
}

// goesOn: what is written and synced behind an Open is told behind what that told.
func goesOn(t *testing.T, h *disk.Hand, j *journal.Journal, told []api.Record) {
	t.Helper()
	checkClean(t, h)
	wants(t, j.Write(row(9000, 2), true), api.OK)
	h.Crash(0)
	_, l := mustOpen(t, h)
	fatalIf(t, !sameAll(l, append(told[:len(told):len(told)], row(9000, 2)...)), "told %v behind %v", sizes(l), sizes(told))
}

// loosest is how many bytes of a file a loss of power can take at most.
func loosest(h *disk.Hand) (most int) {
	for _, f := range h.Files() {
		most = max(most, len(f.Bytes)-f.Safe)
	}
	return most
}

// backAgain plays a word, its power gone on that act, with every number of bytes that can stay; it tells whether the power went in it.
func backAgain(t *testing.T, word string, acts int, done bool) bool {
	h, _, did := lose(t, word, acts, done)
	for keep := range loosest(h) + 1 {
		h, w, _ := lose(t, word, acts, done)
		h.Crash(keep)
		j, l := mustOpen(t, h)
		fatalIf(t, !w.allows(l), "%s, the power gone on act %d (done: %v), %d bytes kept: told %v, safe %v, since %v, instead %v", word, acts, done, keep, sizes(l), sizes(w.safe), sizes(w.since), sizes(w.instead))
		goesOn(t, h, j, l)
	}
	return did
}

// P7.6, at every act of every word, done or not, and behind its last one.
func TestP76BackAgain(t *testing.T) {
	for count := range 4 {
		for _, word := range deeds(count) {
			for _, done := range []bool{false, true} {
				for acts := 0; backAgain(t, word, acts, done); acts++ {
				}
			}
		}
	}
}

// The power goes in the Open behind a loss of power, too: all that stayed is safe, so the next Open tells it.
func TestP77PowerGoesAgainInOpen(t *testing.T) {
	for _, word := range deeds(2) {
		for acts := range 7 {
			for _, done := range []bool{false, true} {
				for _, keep := range []int{0, 5, 11, 15, wide} {
					h, _, _ := lose(t, word, acts, done)
					h.Crash(keep)
					_, want := mustOpen(t, h)
					for again := range 3 {
						for _, didIt := range []bool{false, true} {
							h, w, _ := lose(t, word, acts, done)
							h.Crash(keep)
							h.Arm(again, didIt)
							if _, l, err := journal.Open(h.Disk()); err == nil {
								fatalIf(t, !sameAll(l, want), "told %v, not %v", sizes(l), sizes(want))
							} else {
								wants(t, err, api.ErrDown)
							}
							h.Crash(0)
							j, l := mustOpen(t, h)
							fatalIf(t, !sameAll(l, want) || !w.allows(l), "%s: told %v, not %v", word, sizes(l), sizes(want))
							goesOn(t, h, j, l)
						}
					}
				}
			}
		}
	}
}

// A journal that lives through many losses of power: what was safe is never lost, and stands in its order.
func TestP76ManyLosses(t *testing.T) {
	h := disk.New(wide)
	var w past
	for i := range 3000 {
		j, l := mustOpen(t, h)
		fatalIf(t, !w.allows(l), "told %v, safe %v, since %v, instead %v", sizes(l), sizes(w.safe), sizes(w.since), sizes(w.instead))
		w = past{safe: l}
		h.Arm(i%11, i%2 == 0)
		for k := range 8 {
			letter := "wvsSnwrvRe"[(i*7+k*3+i/5)%10]
			if letter == 'e' && i%9 > 0 {
				letter = 'v'
			}
			if w.deed(j, letter, (i*8+k)%1500) != nil {
				break
			}
		}
		h.Crash(i * 13 % 57)
	}
}

// Every record of the kinds comes back, whatever stays of it: whole, or not at all.
func TestP76AllKindsTorn(t *testing.T) {
	all := kit()
	b := frames(all...)
	for keep := range len(b) + 2 {
		h := disk.New(wide)
		j, _ := mustOpen(t, h)
		wants(t, j.Write(all, false), api.OK)
		h.Crash(keep)
		j, l := mustOpen(t, h)
		fatalIf(t, len(l) > len(all) || !sameAll(l, all[:len(l)]), "told %d records", len(l))
		n := len(frames(l...))
		fatalIf(t, n > keep || len(l) < len(all) && n+len(frames(all[len(l)])) <= keep, "of %d bytes %d records", keep, len(l))
		goesOn(t, h, j, l)
	}
}

// What is not synced is told again behind an Open without a loss of power.
func TestP77NoLossOfPower(t *testing.T) {
	p := newPair(t, wide)
	opensAlike(p, nil)
	p.write(row(300, 2), false)
	opensAlike(p, row(300, 2))
	opensAlike(p, row(300, 2))
	p.write(row(302, 1), true)
	opensAlike(p, row(300, 3))
	p.rewrite(kit())
	opensAlike(p, kit())
	p.rewrite(nil)
	opensAlike(p, nil)
}
