package journal_test

import (
	"bytes"
	"slices"
	"strings"
	"testing"

	"lantern/api"
	"lantern/disk"
	"lantern/journal"
	"lantern/record"
)

// What the chapter says, once more and in another way than the package: what a call does is told as a row of acts, which are done on a disk of their own, a twin of the journal's. Behind each call both disks must lie the same; that the acts are as many, too, is seen by arming both alike.

const (
	old   = "journal"
	fresh = "journal.new"
)

// act of a disk.
type act struct {
	verb, file string
	bytes      []byte
	size       int
}

func (a act) on(d *disk.Disk) error {
	switch a.verb {
	case "append":
		return d.Append(a.file, a.bytes)
	case "sync":
		return d.Sync(a.file)
	case "cut":
		return d.Cut(a.file, a.size)
	case "remove":
		return d.Remove(a.file)
	case "rename":
		return d.Rename(a.file, old)
	}
	panic("no act " + a.verb)
}

// twin is a journal by the words of the chapter.
type twin struct {
	hand        *disk.Hand
	dead        bool
	size, loose int
}

// all does acts until one is refused.
func (w *twin) all(acts []act) error {
	for _, a := range acts {
		if err := a.on(w.hand.Disk()); err != nil {
			if err == disk.ErrDown {
				*w = twin{hand: w.hand, dead: true}
			}
			return err
		}
	}
	return nil
}

// has tells a file's bytes, and whether there is one.
func has(h *disk.Hand, name string) ([]byte, bool) {
	for _, f := range h.Files() {
		if f.Name == name {
			return f.Bytes, true
		}
	}
	return nil, false
}

// open is P7.1.
func (w *twin) open() ([]api.Record, error) {
	*w = twin{hand: w.hand}
	if w.hand.Down() {
		w.dead = true
		return nil, disk.ErrDown
	}
	var acts []act
	if _, is := has(w.hand, fresh); is {
		acts = append(acts, act{verb: "remove", file: fresh})
	}
	b, _ := has(w.hand, old)
	l, n := record.Scan(b)
	if n < len(b) {
		acts = append(acts, act{verb: "cut", file: old, size: n})
	} else {
		w.loose = n
	}
	w.size = n
	if err := w.all(acts); err != nil {
		return nil, err
	}
	return l, nil
}

// asked is what ends a call ahead of every act.
func (w *twin) asked(l []api.Record) ([]byte, error) {
	b, e := record.Frame(l)
	switch {
	case w.dead:
		return nil, api.ErrJournalDead
	case e != api.OK:
		return nil, e
	}
	return b, nil
}

// write is P7.2.
func (w *twin) write(l []api.Record, sync bool) error {
	b, err := w.asked(l)
	if err != nil {
		return err
	}
	var acts []act
	size, loose := w.size+len(b), w.loose+len(b)
	if len(l) > 0 {
		acts = append(acts, act{verb: "append", file: old, bytes: b})
	}
	if sync && loose > 0 {
		acts, loose = append(acts, act{verb: "sync", file: old}), 0
	}
	if err := w.all(acts); err != nil {
		return err
	}
	w.size, w.loose = size, loose
	return nil
}

// rewrite is P7.3.
func (w *twin) rewrite(l []api.Record) error {
	b, err := w.asked(l)
	if err != nil {
		return err
	}
	if err := w.all([]act{{verb: "append", file: fresh, bytes: b}, {verb: "sync", file: fresh}, {verb: "rename", file: fresh}}); err != nil {
		return err
	}
	w.size, w.loose = len(b), 0
	return nil
}

// pair is a journal and its twin.
type pair struct {
	t    *testing.T
	hand *disk.Hand
	j    *journal.Journal // nil: none is open
	twin twin
	done []string // what was done with it, to be told
}

// newPair is a pair on disks that are alike, with nothing open.
func newPair(t *testing.T, room int, starts ...func(*disk.Hand)) *pair {
	p := &pair{t: t, hand: disk.New(room), twin: twin{hand: disk.New(room)}}
	for _, start := range starts {
		p.both(start)
	}
	return p
}

// both does to both disks what others do with them.
func (p *pair) both(do func(*disk.Hand)) {
	do(p.hand)
	do(p.twin.hand)
}

// say notes what is done.
func (p *pair) say(words ...string) { p.done = append(p.done, strings.Join(words, " ")) }

// open opens the journal anew, and tells its records.
func (p *pair) open() []api.Record {
	p.t.Helper()
	p.say("open")
	var l []api.Record
	var err error
	p.j, l, err = journal.Open(p.hand.Disk())
	want, wrong := p.twin.open()
	p.check(err, wrong)
	fatalIf(p.t, (p.j == nil) != (err != nil) || err != nil && l != nil, "%v: a journal %v and %d records beside the error %v", p.done, p.j != nil, len(l), err)
	fatalIf(p.t, !sameAll(l, want), "%v: told %v, not %v", p.done, sizes(l), sizes(want))
	return l
}

func (p *pair) write(l []api.Record, sync bool) error {
	p.t.Helper()
	if p.j == nil {
		return nil
	}
	if p.say("write"); sync {
		p.say("synced")
	}
	err := p.j.Write(l, sync)
	p.check(err, p.twin.write(l, sync))
	return err
}

func (p *pair) rewrite(l []api.Record) error {
	p.t.Helper()
	if p.j == nil {
		return nil
	}
	p.say("rewrite")
	err := p.j.Rewrite(l)
	p.check(err, p.twin.rewrite(l))
	return err
}

// check holds a call's error, the files and what the journal tells of itself against the twin's.
func (p *pair) check(err, want error) {
	p.t.Helper()
	fatalIf(p.t, (err == nil) != (want == nil) || disk.Number(err) != disk.Number(want), "%v: error %v, not %v", p.done, err, want)
	fatalIf(p.t, p.hand.Down() != p.twin.hand.Down(), "%v: the disk is down: %v", p.done, p.hand.Down())
	p.sameFiles()
	if p.j != nil {
		// Asked twice: neither of them is to do anything.
		for range 2 {
			fatalIf(p.t, p.j.Size() != p.twin.size || p.j.Loose() != p.twin.loose, "%v: Size %d, Loose %d, not %d, %d", p.done, p.j.Size(), p.j.Loose(), p.twin.size, p.twin.loose)
		}
		p.sameFiles()
	}
}

func (p *pair) sameFiles() {
	p.t.Helper()
	a, b := p.hand.Files(), p.twin.hand.Files()
	fatalIf(p.t, !slices.EqualFunc(a, b, sameFile), "%v: the files are %v, not %v", p.done, a, b)
}

func sameFile(a, b disk.File) bool {
	return a.Name == b.Name && a.Safe == b.Safe && bytes.Equal(a.Bytes, b.Bytes)
}

// same tells whether two records are one; a list that is nil is one that is empty (W5).
func same(a, b api.Record) bool {
	return slices.Equal(a.Spans, b.Spans) && bytes.Equal(a.Data, b.Data) && a.Kind == b.Kind && a.Session == b.Session &&
		a.Peer == b.Peer && a.Service == b.Service && a.Offset == b.Offset && a.Red == b.Red && a.Size == b.Size && a.How == b.How
}

func sameAll(a, b []api.Record) bool { return slices.EqualFunc(a, b, same) }

func fatalIf(t *testing.T, bad bool, words string, what ...any) {
	t.Helper()
	if bad {
		t.Fatalf(words, what...)
	}
}

// next is a record of 11 bytes in its frame, if n is 128 to 16383.
func next(n int) api.Record { return api.Record{Kind: api.RecNext, Size: n} }

// row is so many such records, from one on.
func row(from, count int) (l []api.Record) {
	for i := range count {
		l = append(l, next(from+i))
	}
	return l
}

func sizes(l []api.Record) (out []int) {
	for _, r := range l {
		out = append(out, r.Size)
	}
	return out
}

func frames(l ...api.Record) []byte {
	b, e := record.Frame(l)
	if e != api.OK {
		panic("no frames")
	}
	return b
}

// some are so many bytes, of all kinds.
func some(n int) []byte {
	b := make([]byte, n)
	for i := range b {
		b[i] = byte(i*7 + i>>8 + 1)
	}
	return b
}

// kit is a record of each kind.
func kit() []api.Record {
	s := api.Session{Origin: 7, Number: 130}
	return []api.Record{
		{Kind: api.RecBoot, Session: api.Session{Origin: 7}, Size: 3},
		{Kind: api.RecNext, Size: 300},
		{Kind: api.RecOpen, Session: s, Peer: 2, Service: 1, Red: 4, Size: 9, Data: []byte{9, 0, 255, 1}},
		{Kind: api.RecEnd, Session: s, How: 6},
		{Kind: api.RecTold, Session: s},
		{Kind: api.RecRed, Session: s, Service: 1, Offset: 5, Data: []byte{65, 66}},
		{Kind: api.RecDone, Session: s},
		{Kind: api.RecGone, Session: s, How: 5},
		{Kind: api.RecHeard, Session: s},
		{Kind: api.RecShut, Session: s},
		{Kind: api.RecTomb, Size: 9, Spans: []api.Span{{From: 1, To: 3}, {From: 5, To: 6}}},
		{Kind: api.RecPast, Session: s, Service: 1, Red: 8, Size: 9},
	}
}

// wrong are records that may not be.
func wrong() []api.Record {
	s := api.Session{Origin: 7, Number: 130}
	return []api.Record{{}, {Kind: 99}, {Kind: -1}, {Kind: 13}, {Kind: api.RecNext}, {Kind: api.RecNext, Size: -5}, {Kind: api.RecNext, Size: api.MaxNum + 1}, {Kind: api.RecNext, Size: 5, How: 1}, {Kind: api.RecEnd, Session: s, How: 7}, {Kind: api.RecTomb, Size: 9}, {Kind: api.RecTold, Session: s, Data: some(api.MaxRecord + 1)}}
}

// put gives a disk a file; the first safe bytes of it are safe.
func put(name string, b []byte, safe int) func(*disk.Hand) {
	return func(h *disk.Hand) {
		d := h.Disk()
		if d.Append(name, b[:safe]) != nil || d.Sync(name) != nil || d.Append(name, b[safe:]) != nil {
			panic("no file")
		}
	}
}
