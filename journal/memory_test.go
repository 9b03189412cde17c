package journal_test

import (
	"bytes"
	"slices"
	"testing"

	"lantern/api"
	"lantern/disk"
	"lantern/journal"
)

// lent is a list with spare room behind it, all of it filled.
func lent[T any](l []T, fill T) []T {
	b := slices.Clone(l)
	for range 40 {
		b = append(b, fill)
	}
	return b[:len(l)]
}

// lentAll are records whose lists have spare room, as their own list does.
func lentAll(l []api.Record) []api.Record {
	var out []api.Record
	for _, r := range l {
		r.Spans, r.Data = lent(r.Spans, api.Span{From: 70, To: 71}), lent(r.Data, 170)
		out = append(out, r)
	}
	return lent(out, api.Record{Kind: 5, Size: 5})
}

// roomy is a list with its spare room.
func roomy[T any](l []T) []T { return l[:cap(l)] }

// held is all that records have, their spare room too, as a copy.
func held(l []api.Record) (out []api.Record) {
	for _, r := range roomy(l) {
		r.Spans, r.Data = slices.Clone(roomy(r.Spans)), bytes.Clone(roomy(r.Data))
		out = append(out, r)
	}
	return out
}

// scribble spoils a list and its spare room.
func scribble[T any](l []T, with T) {
	for i := range roomy(l) {
		roomy(l)[i] = with
	}
}

// spoil spoils records and all that they have.
func spoil(l []api.Record) {
	for _, r := range l {
		spoilOne(r)
	}
	scribble(l, api.Record{Kind: 77})
}

func spoilOne(r api.Record) {
	scribble(r.Spans, api.Span{From: -7, To: -9})
	scribble(r.Data, 77)
}

// great are records with long lists.
func great() []api.Record {
	s := api.Session{Origin: 7, Number: 130}
	var spans []api.Span
	for i := range api.MaxTombs {
		spans = append(spans, api.Span{From: 1 + 2*i, To: 2 + 2*i})
	}
	return []api.Record{
		{Kind: api.RecOpen, Session: s, Peer: 2, Red: api.MaxBlock, Size: api.MaxBlock, Data: some(api.MaxBlock)},
		{Kind: api.RecTomb, Size: 9, Spans: spans},
		{Kind: api.RecRed, Session: s, Data: some(api.MaxBlock)},
	}
}

// calls are all that take records.
func calls() map[string]func(*journal.Journal, []api.Record) error {
	return map[string]func(*journal.Journal, []api.Record) error{
		"Write":        func(j *journal.Journal, l []api.Record) error { return j.Write(l, false) },
		"synced Write": func(j *journal.Journal, l []api.Record) error { return j.Write(l, true) },
		"Rewrite":      (*journal.Journal).Rewrite,
	}
}

// P7.5: records that are handed in are left alone, and not kept: whatever becomes of them, the files and what is told stay.
func TestP75TakesRecords(t *testing.T) {
	for name, call := range calls() {
		for _, want := range [][]api.Record{nil, kit(), great(), slices.Repeat(kit(), 20)} {
			h := disk.New(wide)
			j, _ := mustOpen(t, h)
			l := lentAll(want)
			was := held(l)
			wants(t, call(j, l), api.OK)
			fatalIf(t, !sameAll(held(l), was), "%s of %d: what is handed in was changed", name, len(want))
			spoil(l)
			b, _ := has(h, old)
			fatalIf(t, !bytes.Equal(b, frames(want...)) || j.Size() != len(b), "%s of %d: the file hangs on memory that is another's", name, len(want))
			wants(t, j.Write(lentAll(want), true), api.OK)
			wants(t, call(j, lentAll(want)), api.OK)
			_, got := mustOpen(t, h)
			fatalIf(t, len(got)%max(len(want), 1) != 0 || !sameAll(got[:len(want)], want), "%s of %d: told otherwise", name, len(want))
		}
	}
}

// What is refused is left alone, too: by a journal that is dead, by a full disk, for a record that may not be.
func TestP75RefusedIsLeftAlone(t *testing.T) {
	for name, call := range calls() {
		for what, arm := range map[string]func(*disk.Hand){
			"wrong": func(*disk.Hand) {},
			"full":  func(*disk.Hand) {},
			"down":  func(h *disk.Hand) { h.Arm(0, false) },
			"half":  func(h *disk.Hand) { h.Arm(0, true) },
		} {
			h := disk.New(20)
			j, _ := mustOpen(t, h)
			l := kit()
			switch what {
			case "wrong":
				l = append(l, wrong()...)
			case "down", "half":
				l = l[1:2]
			}
			l = lentAll(l)
			was := held(l)
			arm(h)
			for range 2 {
				fatalIf(t, call(j, l) == nil, "%s, %s: not refused", name, what)
				fatalIf(t, !sameAll(held(l), was), "%s, %s: what is handed in was changed", name, what)
			}
		}
	}
}

// What Open tells is new memory: whatever becomes of it, the journal and the next Open tell the same.
func TestP75AnswersNewMemory(t *testing.T) {
	for _, want := range [][]api.Record{kit(), great(), slices.Repeat(kit(), 20)} {
		for _, rest := range [][]byte{nil, {0}} {
			h := disk.New(wide)
			put(old, append(frames(want...), rest...), 3)(h)
			_, other := mustOpen(t, h)
			j, l := mustOpen(t, h)
			spoil(l)
			fatalIf(t, !sameAll(other, want), "two Opens tell the same memory")
			fatalIf(t, j.Size() != len(frames(want...)), "Size %d", j.Size())
			wants(t, j.Write(row(300, 1), true), api.OK)
			_, l = mustOpen(t, h)
			fatalIf(t, !sameAll(l, append(slices.Clone(want), next(300))), "what Open told is kept")
		}
	}
}

// No two records of one answer share memory, nor spare room.
func TestP75RecordsLieApart(t *testing.T) {
	want := append(slices.Repeat(kit(), 5), great()...)
	h := disk.New(wide)
	put(old, frames(want...), 0)(h)
	_, forward := mustOpen(t, h)
	_, backward := mustOpen(t, h)
	for i := range want {
		spoilOne(forward[i])
		fatalIf(t, !sameAll(forward[i+1:], want[i+1:]), "record %d shares memory with one behind it", i)
		k := len(want) - 1 - i
		spoilOne(backward[k])
		fatalIf(t, !sameAll(backward[:k], want[:k]), "record %d shares memory with one ahead of it", k)
	}
}

// Records that a journal told can be handed to it again.
func TestP75ToldAndWrittenAgain(t *testing.T) {
	h := disk.New(wide)
	put(old, frames(append(kit(), great()...)...), 0)(h)
	j, l := mustOpen(t, h)
	wants(t, j.Rewrite(l[3:]), api.OK)
	wants(t, j.Write(l[:3], true), api.OK)
	_, got := mustOpen(t, h)
	want := append(kit(), great()...)
	fatalIf(t, !sameAll(got, append(want[3:len(want):len(want)], want[:3]...)), "told %v", sizes(got))
}
