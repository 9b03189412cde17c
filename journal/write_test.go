package journal_test

import (
	"bytes"
	"errors"
	"slices"
	"testing"

	"lantern/api"
	"lantern/disk"
	"lantern/journal"
)

func wants(t *testing.T, err error, want api.Errno) {
	t.Helper()
	fatalIf(t, (err == nil) != (want == api.OK) || disk.Number(err) != want, "error %v, not %d", err, want)
}

// The chapter's table, row by row.
func TestExamples(t *testing.T) {
	h := disk.New(wide)
	j, _ := mustOpen(t, h)
	wants(t, j.Write(row(300, 1), false), api.OK)
	look(t, h, j, 11, 0, 11)
	h.Arm(1, false)
	wants(t, j.Write(nil, true), api.OK)
	look(t, h, j, 11, 11, 0)
	wants(t, j.Write(nil, true), api.OK)
	fatalIf(t, h.Down(), "a Write of nothing with nothing to be synced does an act")
	wants(t, j.Write([]api.Record{{Kind: 99}}, true), api.ErrRecordKind)
	fatalIf(t, h.Down(), "a Write of a record that may not be does an act")
	look(t, h, j, 11, 11, 0)

	wants(t, j.Write(row(301, 2), false), api.ErrDown)
	for range 3 {
		wants(t, j.Write(row(301, 2), false), api.ErrJournalDead)
		fatalIf(t, j.Size() != 0 || j.Loose() != 0, "dead: Size %d, Loose %d", j.Size(), j.Loose())
	}
}

func TestExamplesTorn(t *testing.T) {
	h := disk.New(wide)
	put(old, frames(next(300)), 11)(h)
	j, _ := mustOpen(t, h)
	wants(t, j.Write(row(301, 2), false), api.OK)
	look(t, h, j, 33, 11, 33)
	h.Crash(15)
	b, _ := has(h, old)
	fatalIf(t, len(b) != 26, "%d bytes", len(b))
	j, l := mustOpen(t, h)
	fatalIf(t, !sameAll(l, row(300, 2)), "told %v", sizes(l))
	look(t, h, j, 22, 22, 0)
}

func TestExamplesRewrite(t *testing.T) {
	h := disk.New(wide)
	put(old, frames(row(300, 2)...), 22)(h)
	j, _ := mustOpen(t, h)
	h.Arm(2, false)
	wants(t, j.Rewrite(row(9, 1)), api.ErrDown)
	h.Crash(0)
	_, rests := has(h, fresh)
	fatalIf(t, !rests, "there is no journal.new")
	j, l := mustOpen(t, h)
	fatalIf(t, !sameAll(l, row(300, 2)), "told %v", sizes(l))
	look(t, h, j, 22, 22, 22)
	wants(t, j.Rewrite(nil), api.OK)
	look(t, h, j, 0, 0, 0)
	_, l = mustOpen(t, h)
	fatalIf(t, len(l) != 0, "told %v", sizes(l))
}

// The first Write of a journal makes the file; a Write of nothing does not.
func TestP72MakesTheFile(t *testing.T) {
	h := disk.New(wide)
	j, _ := mustOpen(t, h)
	for _, l := range [][]api.Record{nil, {}} {
		for _, sync := range []bool{false, true} {
			wants(t, j.Write(l, sync), api.OK)
			fatalIf(t, len(h.Files()) != 0, "the files are %v", h.Files())
		}
	}
	wants(t, j.Write(row(300, 1), true), api.OK)
	look(t, h, j, 11, 11, 0)
}

func TestP72AllKinds(t *testing.T) {
	h := disk.New(wide)
	j, _ := mustOpen(t, h)
	var want []byte
	for i, r := range kit() {
		wants(t, j.Write([]api.Record{r}, i%2 == 1), api.OK)
		want = append(want, frames(r)...)
		b, _ := has(h, old)
		fatalIf(t, !bytes.Equal(b, want) || j.Size() != len(want), "%d bytes, Size %d; not %d", len(b), j.Size(), len(want))
	}
	wants(t, j.Write(kit(), true), api.OK)
	h.Crash(0)
	_, l := mustOpen(t, h)
	fatalIf(t, !sameAll(l, append(kit(), kit()...)), "told %d records", len(l))
}

// However many records a Write has, it is one Append and one Sync.
func TestP72OneAppendOneSync(t *testing.T) {
	great := api.Record{Kind: api.RecRed, Session: api.Session{Origin: 1, Number: 2}, Data: some(api.MaxBlock)}
	for _, l := range [][]api.Record{row(1, 1), row(1, 2), row(1, 5000), slices.Repeat([]api.Record{great}, 7), kit()} {
		for k := range 4 {
			for _, done := range []bool{false, true} {
				for _, sync := range []bool{false, true} {
					p := newPair(t, wide)
					p.open()
					p.both(func(h *disk.Hand) { h.Arm(k, done) })
					p.write(l, sync)
					p.write(nil, true)
					p.write(nil, true)
					fatalIf(t, p.hand.Down() != (k < 2), "armed for %d: down %v", k, p.hand.Down())
				}
			}
		}
	}
}

// What Open found is not known to be safe: a Sync alone makes it so, and one is enough.
func TestP72SyncsWhatOpenFound(t *testing.T) {
	b := frames(row(300, 2)...)
	for _, safe := range []int{0, 5, 22} {
		h := disk.New(wide)
		put(old, b, safe)(h)
		j, _ := mustOpen(t, h)
		h.Arm(1, false)
		wants(t, j.Write(nil, false), api.OK)
		look(t, h, j, 22, safe, 22)
		wants(t, j.Write(nil, true), api.OK)
		look(t, h, j, 22, 22, 0)
		wants(t, j.Write(nil, true), api.OK)
		wants(t, j.Write(nil, true), api.OK)
		fatalIf(t, h.Down(), "an act too many")
		wants(t, j.Write(row(1, 1), true), api.ErrDown)
	}
	h := disk.New(wide)
	put(old, append(b, 0), 23)(h)
	j, _ := mustOpen(t, h)
	h.Arm(0, false)
	wants(t, j.Write(nil, true), api.OK)
	fatalIf(t, h.Down() || j.Loose() != 0, "what was cut is synced")
}

func TestP72Wrong(t *testing.T) {
	for _, w := range wrong() {
		for n := 1; n < 4; n++ {
			for i := range n {
				l := row(300, n)
				l[i] = w
				for _, sync := range []bool{false, true} {
					p := newPair(t, wide)
					p.open()
					p.write(row(300, 1), false)
					p.both(func(h *disk.Hand) { h.Arm(0, false) })
					wants(t, p.write(l, sync), api.ErrRecordKind)
					wants(t, p.rewrite(l), api.ErrRecordKind)
					fatalIf(t, p.hand.Down(), "an act is done with %v at %d", w.Kind, i)
					// That it is dead is told ahead of what is wrong with the records.
					wants(t, p.write(row(1, 1), false), api.ErrDown)
					wants(t, p.write(l, sync), api.ErrJournalDead)
					wants(t, p.rewrite(l), api.ErrJournalDead)
				}
			}
		}
	}
}

// Room for just so much, and for a byte less.
func TestP72Room(t *testing.T) {
	for _, l := range [][]api.Record{row(300, 1), row(300, 3), kit()} {
		b := frames(l...)
		for _, others := range []int{0, 9} {
			for _, was := range [][]api.Record{nil, row(200, 2)} {
				used := others + len(frames(was...))
				for short := range 3 {
					for _, sync := range []bool{false, true} {
						p := newPair(t, used+len(b)-short, put("other", some(others), 0))
						p.open()
						p.write(was, false)
						want := api.OK
						if short > 0 {
							want = api.ErrFull
						}
						wants(t, p.write(l, sync), want)
						p.write(nil, true)
						p.both(func(h *disk.Hand) { h.Crash(0) })
						if short > 0 {
							opensAlike(p, was)
						} else {
							opensAlike(p, append(slices.Clone(was), l...))
						}
					}
				}
			}
		}
	}
}

// A Write that finds no room syncs nothing, and what it is asked next holds.
func TestP72FullSyncsNothing(t *testing.T) {
	h := disk.New(25)
	j, _ := mustOpen(t, h)
	wants(t, j.Write(row(300, 1), false), api.OK)
	h.Arm(0, true)
	wants(t, j.Write(row(300, 2), true), api.ErrFull)
	fatalIf(t, h.Down(), "an act is done")
	look(t, h, j, 11, 0, 11)
	h.Arm(9, false)
	wants(t, j.Write(row(301, 1), true), api.OK)
	look(t, h, j, 22, 22, 0)
	wants(t, j.Write(row(1, 1), true), api.ErrFull)
	look(t, h, j, 22, 22, 0)
}

func TestP73Room(t *testing.T) {
	for _, l := range [][]api.Record{row(300, 1), row(300, 3), kit()} {
		b := frames(l...)
		for _, was := range [][]api.Record{nil, row(200, 2)} {
			for short := range 3 {
				for _, sync := range []bool{false, true} {
					p := newPair(t, len(frames(was...))+len(b)-short)
					p.open()
					p.write(was, sync)
					want := api.OK
					if short > 0 {
						want = api.ErrFull
					}
					wants(t, p.rewrite(l), want)
					_, rests := has(p.hand, fresh)
					fatalIf(t, rests, "there is a journal.new")
					if short > 0 {
						wants(t, p.rewrite(nil), api.OK)
						wants(t, p.rewrite(l[:len(l)-1]), api.OK)
					}
					wants(t, p.write(nil, true), api.OK)
				}
			}
		}
	}
}

// On a disk that is full to the last byte a journal can be emptied still.
func TestP73FullDisk(t *testing.T) {
	h := disk.New(11)
	j, _ := mustOpen(t, h)
	wants(t, j.Write(row(300, 1), false), api.OK)
	wants(t, j.Rewrite(row(300, 1)), api.ErrFull)
	look(t, h, j, 11, 0, 11)
	wants(t, j.Rewrite([]api.Record{}), api.OK)
	look(t, h, j, 0, 0, 0)
	wants(t, j.Write(row(300, 1), true), api.OK)
	look(t, h, j, 11, 11, 0)
}

// Whatever was there, behind a Rewrite just its records are, all of them safe.
func TestP73Rewrites(t *testing.T) {
	for _, was := range [][]api.Record{nil, row(200, 1), kit()} {
		for _, sync := range []bool{false, true} {
			for _, l := range [][]api.Record{nil, {}, row(300, 1), row(300, 3), kit(), row(1, 5000)} {
				h := disk.New(wide)
				j, _ := mustOpen(t, h)
				wants(t, j.Write(was, sync), api.OK)
				for range 2 {
					wants(t, j.Rewrite(l), api.OK)
					b, _ := has(h, old)
					fatalIf(t, !bytes.Equal(b, frames(l...)), "%d bytes", len(b))
					look(t, h, j, len(b), len(b), 0)
				}
				h.Arm(0, false)
				wants(t, j.Write(nil, true), api.OK)
				fatalIf(t, h.Down(), "what a Rewrite wrote is synced again")
				h.Arm(9, false)
				wants(t, j.Write(row(400, 1), true), api.OK)
				h.Crash(0)
				_, got := mustOpen(t, h)
				fatalIf(t, !sameAll(got, append(slices.Clone(l), next(400))), "told %v", sizes(got))
			}
		}
	}
}

// The three acts of a Rewrite, each refused, done or not, and one more that there is not.
func TestP73GoesDown(t *testing.T) {
	for _, l := range [][]api.Record{nil, row(9, 1), row(300, 4), kit()} {
		for k := range 5 {
			for _, done := range []bool{false, true} {
				p := newPair(t, wide)
				p.open()
				p.write(row(300, 2), true)
				p.write(row(302, 1), false)
				p.both(func(h *disk.Hand) { h.Arm(k, done) })
				err := p.rewrite(l)
				fatalIf(t, p.hand.Down() != (k < 3), "armed for %d: down %v", k, p.hand.Down())
				fatalIf(t, (err != nil) != (k < 3), "armed for %d: %v", k, err)
				b, rests := has(p.hand, fresh)
				fatalIf(t, rests != (k == 0 && done || k == 1 || k == 2 && !done), "armed for %d %v: journal.new: %v", k, done, rests)
				fatalIf(t, rests && !bytes.Equal(b, frames(l...)), "armed for %d %v: journal.new has %d bytes", k, done, len(b))
				if err == nil {
					continue
				}
				was := p.hand.Files()
				for range 2 {
					wants(t, p.write(nil, false), api.ErrJournalDead)
					wants(t, p.write(row(1, 1), true), api.ErrJournalDead)
					wants(t, p.rewrite(nil), api.ErrJournalDead)
					wants(t, p.rewrite(row(1, 1)), api.ErrJournalDead)
				}
				fatalIf(t, !slices.EqualFunc(p.hand.Files(), was, sameFile), "a dead journal does acts")
			}
		}
	}
}

// A disk that went down by another's act: the journal is dead only when an act of its own is refused.
func TestP72DownByAnother(t *testing.T) {
	for _, ask := range []func(*journal.Journal) error{
		func(j *journal.Journal) error { return j.Write(row(1, 1), false) },
		func(j *journal.Journal) error { return j.Write(row(1, 1), true) },
		func(j *journal.Journal) error { return j.Write(nil, true) },
		func(j *journal.Journal) error { return j.Rewrite(nil) },
		func(j *journal.Journal) error { return j.Rewrite(row(1, 1)) },
	} {
		h := disk.New(wide)
		j, _ := mustOpen(t, h)
		wants(t, j.Write(row(300, 1), false), api.OK)
		h.Arm(0, false)
		wants(t, h.Disk().Append("other", nil), api.ErrDown)
		wants(t, j.Write(nil, false), api.OK)
		wants(t, j.Write([]api.Record{{}}, true), api.ErrRecordKind)
		wants(t, j.Rewrite([]api.Record{{}}), api.ErrRecordKind)
		look(t, h, j, 11, 0, 11)
		wants(t, ask(j), api.ErrDown)
		fatalIf(t, j.Size() != 0 || j.Loose() != 0, "dead: Size %d, Loose %d", j.Size(), j.Loose())
		wants(t, j.Write(nil, false), api.ErrJournalDead)
		wants(t, ask(j), api.ErrJournalDead)
	}
}

// What a disk said can be asked for as it is, too.
func TestW8(t *testing.T) {
	h := disk.New(15)
	j, _ := mustOpen(t, h)
	is := func(err, want error) {
		t.Helper()
		fatalIf(t, !errors.Is(err, want), "error %v, not %v", err, want)
	}
	is(j.Write(row(300, 2), false), disk.ErrFull)
	is(j.Rewrite(row(300, 2)), disk.ErrFull)
	is(j.Write([]api.Record{{}}, false), api.ErrRecordKind)
	is(j.Rewrite([]api.Record{{}}), api.ErrRecordKind)
	h.Arm(0, false)
	is(j.Write(row(300, 1), false), disk.ErrDown)
	is(j.Write(nil, false), api.ErrJournalDead)
	is(j.Rewrite(nil), api.ErrJournalDead)
	_, _, err := journal.Open(h.Disk())
	is(err, disk.ErrDown)
}

// Two journals on two disks have nothing to do with each other (W2).
func TestW2TwoJournals(t *testing.T) {
	a, b := newPair(t, wide), newPair(t, 40)
	a.open()
	b.open()
	a.write(row(300, 2), false)
	b.write(row(400, 3), true)
	b.write(row(500, 3), true)
	a.rewrite(row(600, 1))
	b.both(func(h *disk.Hand) { h.Arm(0, true) })
	b.rewrite(nil)
	a.write(row(700, 1), true)
	b.write(nil, false)
	a.rewrite(nil)
	a.write(kit(), false)
	opensAlike(a, kit())
}
