package record_test

import (
	"bytes"
	"slices"
	"testing"

	"lantern/api"
	"lantern/record"
)

// lent is a list with spare room behind it, all of it filled.
func lent[T any](l []T, fill T) []T {
	b := slices.Clone(l)
	for range 40 {
		b = append(b, fill)
	}
	return b[:len(l)]
}

// lentRecord is a record whose lists have spare room.
func lentRecord(r api.Record) api.Record {
	r.Spans, r.Data = lent(r.Spans, span(70, 71)), lent(r.Data, 170)
	return r
}

// roomy is a list with its spare room.
func roomy[T any](l []T) []T { return l[:cap(l)] }

// scribble spoils a list and its spare room.
func scribble[T any](l []T, with T) {
	for i := range roomy(l) {
		roomy(l)[i] = with
	}
}

// spoil spoils the lists of a record.
func spoil(r api.Record) {
	scribble(r.Spans, span(-7, -9))
	scribble(r.Data, 77)
}

// held is all that a record's lists have, their spare room too.
func held(r api.Record) api.Record {
	r.Spans, r.Data = slices.Clone(roomy(r.Spans)), bytes.Clone(roomy(r.Data))
	return r
}

func sameHeld(r, was api.Record) bool { return same(held(r), was) }

func TestP66PrintTakesAndAnswers(t *testing.T) {
	for _, want := range good() {
		r := lentRecord(want)
		was := held(r)
		record.Right(r)
		fatalIf(t, !sameHeld(r, was), "Right of %v: what is handed in was changed", brief(want))
		got, _ := record.Print(r)
		fatalIf(t, !sameHeld(r, was), "Print of %v: what is handed in was changed", brief(want))
		other, _ := record.Print(r)
		scribble(other, 77)
		fatalIf(t, !sameHeld(r, was), "Print of %v: what is handed in is what is answered", brief(want))
		spoil(r)
		fatalIf(t, !bytes.Equal(got, modelBytes(want)), "Print of %v: its answer hangs on memory that is another's", brief(want))
		checkPrint(t, want)
	}
}

func TestP66ReadTakesAndAnswers(t *testing.T) {
	for _, want := range good() {
		b := lent(modelBytes(want), 1)
		was := bytes.Clone(roomy(b))
		got, _ := record.Read(b)
		fatalIf(t, !bytes.Equal(roomy(b), was), "Read of %v: what is handed in was changed", brief(want))
		other, _ := record.Read(b)
		spoil(other)
		fatalIf(t, !bytes.Equal(roomy(b), was), "Read of %v: what is handed in is what is answered", brief(want))
		scribble(b, 77)
		fatalIf(t, !same(got, want), "Read of %v: its answer hangs on memory that is another's", brief(want))
		checkRead(t, modelBytes(want))
	}
}

func TestP66FrameTakesAndAnswers(t *testing.T) {
	for _, l := range [][]api.Record{nil, kit(), great(), slices.Repeat(kit(), 20), append(kit(), api.Record{Kind: 99}), append([]api.Record{{}}, kit()...)} {
		var mine []api.Record
		for _, r := range l {
			mine = append(mine, lentRecord(r))
		}
		mine = lent(mine, api.Record{Kind: 5, Size: 5})
		var was []api.Record
		for _, r := range roomy(mine) {
			was = append(was, held(r))
		}
		got, e := record.Frame(mine)
		fatalIf(t, !slices.EqualFunc(roomy(mine), was, sameHeld), "Frame of %d: what is handed in was changed", len(l))
		other, _ := record.Frame(mine)
		scribble(other, 77)
		fatalIf(t, !slices.EqualFunc(roomy(mine), was, sameHeld), "Frame of %d: what is handed in is what is answered", len(l))
		for _, r := range mine {
			spoil(r)
		}
		scribble(mine, api.Record{Kind: 77})
		fatalIf(t, e == api.OK && !bytes.Equal(got, modelFrames(l)), "Frame of %d: its answer hangs on memory that is another's", len(l))
	}
}

func TestP66ScanTakesAndAnswers(t *testing.T) {
	for _, want := range [][]api.Record{nil, kit(), great(), slices.Repeat(kit(), 20)} {
		for _, behind := range [][]byte{nil, {0}, some(30), modelFrames(kit())[:9]} {
			b := lent(append(modelFrames(want), behind...), 1)
			was := bytes.Clone(roomy(b))
			got, n := record.Scan(b)
			fatalIf(t, !bytes.Equal(roomy(b), was), "Scan of %d: what is handed in was changed", len(want))
			other, _ := record.Scan(b)
			for _, r := range other {
				spoil(r)
			}
			scribble(other, api.Record{Kind: 77})
			fatalIf(t, !bytes.Equal(roomy(b), was), "Scan of %d: what is handed in is what is answered", len(want))
			scribble(b, 77)
			fatalIf(t, n != len(b)-len(behind) || !sameAll(got, want), "Scan of %d: its answer hangs on memory that is another's", len(want))
		}
	}
}

// No two records of one answer share memory, nor spare room.
func TestP66ScannedRecordsLieApart(t *testing.T) {
	l := append(slices.Repeat([]api.Record{plain(6), plain(11), plain(3)}, 9), great()...)
	forward, _ := record.Scan(modelFrames(l))
	backward, _ := record.Scan(modelFrames(l))
	for i := range l {
		spoil(forward[i])
		fatalIf(t, !sameAll(forward[i+1:], l[i+1:]), "record %d shares memory with one behind it", i)
		k := len(l) - 1 - i
		spoil(backward[k])
		fatalIf(t, !sameAll(backward[:k], l[:k]), "record %d shares memory with one ahead of it", k)
	}
}

func TestP66SumTakes(t *testing.T) {
	b := lent(some(100), 1)
	was := bytes.Clone(roomy(b))
	n := record.Sum(b)
	fatalIf(t, !bytes.Equal(roomy(b), was) || n != record.Sum(some(100)), "Sum: what is handed in was changed, or its spare room counts")
}

// What is refused is not changed either.
func TestP66RefusedIsLeftAlone(t *testing.T) {
	for _, r := range good() {
		for _, change := range []func(*api.Record){
			func(r *api.Record) { r.Kind = 99 },
			func(r *api.Record) { r.Session.Origin = -1 },
			func(r *api.Record) { r.Spans = spans(5, 6, 1, 3, 3, 3) },
			func(r *api.Record) { r.Data = some(whole + 9) },
		} {
			x := lentRecord(with(r, change))
			was := held(x)
			for _, call := range []func(){func() { record.Right(x) }, func() { record.Print(x) }, func() { record.Frame([]api.Record{x}) }} {
				call()
				fatalIf(t, !sameHeld(x, was), "%v: what is handed in was changed", brief(x))
			}
		}
		m := modelBytes(r)
		for _, b := range [][]byte{m[:len(m)-1], append(slices.Clone(m), 0), m[1:], framed(m[:len(m)-1]), append([]byte{128}, m...)} {
			b = lent(b, 1)
			was := bytes.Clone(roomy(b))
			for _, call := range []func(){func() { record.Read(b) }, func() { record.Scan(b) }} {
				call()
				fatalIf(t, !bytes.Equal(roomy(b), was), "%v: what is handed in was changed", short(b))
			}
		}
	}
}
