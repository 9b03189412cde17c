package table_test

import (
	"fmt"
	"math"
	"slices"
	"testing"

	"lantern/api"
	"lantern/table"
)

// b is the engine 1, booted once.
var b = boot(1, 1)

// try is a record behind a row of others, and what Can and Apply are to say of it.
type try struct {
	l []api.Record
	r api.Record
	e api.Errno
}

// row is a row of records, a copy without spare room.
func row(l ...api.Record) []api.Record { return slices.Clip(slices.Clone(l)) }

// tried holds tables, and the model, to what is said of some records.
func tried(t *testing.T, l []try) {
	t.Helper()
	for _, x := range l {
		m := newModel(x.l...)
		fatalIf(t, m.can(x.r) != x.e, "the model is wrong: %s behind %s: %d, not %d", brief{x.r}, brief{x.l}, m.can(x.r), x.e)
		tb := mustLoad(t, x.l...)
		stands(t, tb, m)
		got, n, e := table.Load(append(row(x.l...), x.r))
		if x.e != ok {
			refuses(t, tb, x.r, x.e)
			fatalIf(t, got != nil || n != len(x.l) || e != x.e, "Load of %s and %s: %v, %d, %d", brief{x.l}, brief{x.r}, got, n, e)
		} else {
			mustApply(t, tb, x.r)
			m.apply(x.r)
			fatalIf(t, got == nil || n != 0 || e != ok || !same(got.State(), tb.State()), "Load of %s and %s: %d, %d", brief{x.l}, brief{x.r}, n, e)
		}
		stands(t, tb, m)
	}
}

func TestP81NewIsTheFirstState(t *testing.T) {
	for _, x := range []*table.Table{table.New(), mustLoad(t), mustLoad(t, row()...)} {
		fatalIf(t, !same(x.State(), api.State{Next: 1}), "%s", brief{x.State()})
		fatalIf(t, len(x.Snapshot()) != 0, "%s", brief{x.Snapshot()})
		fatalIf(t, x.Closed(at(1, 1)) || x.Closed(at(0, 0)), "closed")
	}
	x, n, e := table.Load(nil)
	fatalIf(t, x == nil || n != 0 || e != ok, "Load of none: %d, %d", n, e)
}

// The examples of the chapter, in its order.
func TestP81Examples(t *testing.T) {
	one, seven := at(2, 1), at(2, 7)
	tried(t, []try{
		{row(b), b, order},
		{row(), skip(5), order},
		{row(b, open(at(1, 1), 2), open(at(1, 3), 2)), open(at(1, 2), 2), order},
		{row(b, open(at(1, 1), 2), end(at(1, 1), 0)), told(at(1, 1)), ok},
		{row(b, red(one, 5, 0, 0, "abc"), red(one, 0, 8, 0, "defgh")), done(one), ok},
		{row(b, red(one, 5, 0, 0, "abc"), red(one, 0, 8, 0, "defgh"), done(one)), heard(one), ok},
		{row(b, red(one, 5, 0, 0, "abc"), red(one, 0, 8, 0, "defgh"), done(one), heard(one)), shut(one), ok},
		{row(b, red(one, 5, 0, 0, "abc"), red(one, 0, 8, 0, "defgh"), done(one), heard(one), shut(one)), red(one, 0, 0, 0, "a"), order},
		{row(b), gone(seven, 4), ok},
		{row(b, gone(seven, 4)), heard(seven), ok},
		{row(b, red(one, 0, 9, 0, "abc")), red(one, 0, 8, 0, "ab"), order},
		{row(b, red(one, 0, 9, 0, "abc")), red(one, 0, 0, 0, "ab"), order},
	})
}

// What the examples come to, by the chapter's own words.
func TestP83ExamplesState(t *testing.T) {
	one, seven := at(2, 1), at(2, 7)
	first := row(b, red(one, 5, 0, 0, "abc"), red(one, 0, 8, 0, "defgh"), done(one))
	whole := api.Incoming{Session: one, Service: 7, Red: 8, Have: spans(0, 8), Data: []byte("defghabc"), Delivered: true}
	held := whole
	held.Data, held.Heard = nil, true
	sent := api.Outgoing{Session: at(1, 1), Peer: 2, Service: 7, Red: 2, Size: 3, Data: []byte{1, 9}}
	later := sent
	later.Session.Number, later.Data = 3, []byte{3, 9}
	for i, x := range []struct {
		l    []api.Record
		want api.State
		shot []api.Record
	}{
		{row(b, open(at(1, 1), 2), open(at(1, 3), 2)), api.State{Next: 4, Outgoing: []api.Outgoing{sent, later}}, row(b, open(at(1, 1), 2), open(at(1, 3), 2))},
		{row(b, open(at(1, 1), 2), end(at(1, 1), 0), told(at(1, 1))), api.State{Next: 2}, row(b, skip(2))},
		{first, api.State{Next: 1, Incoming: []api.Incoming{whole}}, row(b, red(one, 0, 8, 0, "defghabc"), done(one))},
		{append(first, heard(one)), api.State{Next: 1, Incoming: []api.Incoming{held}}, row(b, past(one, 8, 0))},
		{append(first, heard(one), shut(one)), api.State{Next: 1, Tombs: []api.Tomb{{Origin: 2, Spans: spans(1, 2)}}}, row(b, tomb(2, 1, 2))},
		{row(b, gone(seven, 4)), api.State{Next: 1, Incoming: []api.Incoming{{Session: seven, Gone: true, How: 4}}}, row(b, gone(seven, 4))},
		{row(b, gone(seven, 4), heard(seven)), api.State{Next: 1, Tombs: []api.Tomb{{Origin: 2, Spans: spans(7, 8)}}}, row(b, tomb(2, 7, 8))},
	} {
		x.want.Id, x.want.Boots = 1, 1
		tb := mustLoad(t, x.l...)
		fatalIf(t, !same(tb.State(), x.want), "%d: %s", i, brief{tb.State()})
		fatalIf(t, !sameAll(tb.Snapshot(), x.shot), "%d: %s", i, brief{tb.Snapshot()})
	}
}

func TestP81RowOfBoot(t *testing.T) {
	const most = 1 << 30
	tried(t, []try{
		{row(), b, ok},
		{row(), boot(9, 5), ok},
		{row(), boot(top, most), ok},
		{row(b), boot(1, 2), ok},
		{row(b), boot(2, 2), order},
		{row(b), boot(2, 1), order},
		{row(b), boot(1, 3), order},
		{row(boot(1, 5)), boot(1, 6), ok},
		{row(boot(1, 5)), boot(1, 5), order},
		{row(boot(1, 5)), boot(1, 4), order},
		{row(boot(1, 5)), boot(1, 1), order},
		{row(boot(1, most-1)), boot(1, most), ok},
		{row(boot(1, most)), boot(1, most), order},
		{row(boot(1, most)), boot(1, most+1), wrong},
		{row(b, open(at(1, 1), 2), gone(at(2, 3), 0)), boot(1, 2), ok},
	})
}

// Of no engine nothing is known but that it boots.
func TestP81NothingAheadOfBoot(t *testing.T) {
	for _, r := range plain() {
		tried(t, []try{{row(), r, order}})
	}
}

// plain is a record of each kind but RecBoot that may be.
func plain() []api.Record {
	s := at(2, 1)
	return row(skip(1), open(s, 3), end(s, 0), told(s), red(s, 0, 0, 0, "a"), done(s), gone(s, 0), heard(s), shut(s), tomb(2, 1, 2), past(s, 1, 0))
}

func TestP81RowOfNext(t *testing.T) {
	tried(t, []try{
		{row(b), skip(1), ok},
		{row(b), skip(2), ok},
		{row(b), skip(top), ok},
		{row(b), skip(top + 1), wrong},
		{row(b), skip(0), wrong},
		{row(b, skip(5)), skip(4), order},
		{row(b, skip(5)), skip(1), order},
		{row(b, skip(5)), skip(5), ok},
		{row(b, skip(5)), skip(6), ok},
		{row(b, skip(top)), skip(top), ok},
		{row(b, skip(top)), skip(top - 1), order},
		{row(b, open(at(1, 4), 2)), skip(4), order},
		{row(b, open(at(1, 4), 2)), skip(5), ok},
		{row(b, open(at(1, 4), 2), end(at(1, 4), 0), told(at(1, 4))), skip(4), order},
	})
}

func TestP81RowOfOpen(t *testing.T) {
	tried(t, []try{
		{row(b), open(at(1, 1), 2), ok},
		{row(b), open(at(1, top-1), top), ok},
		{row(b), open(at(1, top), 2), wrong},
		{row(b), open(at(2, 1), 3), order},
		{row(b), open(at(2, 1), 1), order},
		{row(b), open(at(1, 1), 1), order},
		{row(boot(9, 1)), open(at(9, 1), 1), ok},
		{row(boot(9, 1)), open(at(9, 1), 9), order},
		{row(boot(9, 1)), open(at(1, 1), 2), order},
		{row(b, skip(5)), open(at(1, 4), 2), order},
		{row(b, skip(5)), open(at(1, 5), 2), ok},
		{row(b, skip(5)), open(at(1, 6), 2), ok},
		{row(b, skip(top)), open(at(1, top-1), 2), order},
		{row(b, skip(top-1)), open(at(1, top-1), 2), ok},
		{row(b, open(at(1, 1), 2)), open(at(1, 1), 2), order},
		{row(b, open(at(1, 1), 2)), open(at(1, 2), 3), ok},
		{row(b, open(at(1, 1), 2), end(at(1, 1), 0), told(at(1, 1))), open(at(1, 1), 2), order},
		{row(b, open(at(1, top-1), 2)), open(at(1, top-1), 2), order},
		{row(b, open(at(1, top-1), 2)), skip(top), ok},
		{row(b, gone(at(2, 1), 0)), open(at(1, 1), 2), ok},
	})
}

func TestP81RowsOfEndAndTold(t *testing.T) {
	one, two := at(1, 1), at(1, 2)
	tried(t, []try{
		{row(b), end(one, 0), order},
		{row(b, open(two, 2)), end(one, 0), order},
		{row(b, open(one, 2)), end(one, 0), ok},
		{row(b, open(one, 2)), end(one, 6), ok},
		{row(b, open(one, 2)), end(one, 7), wrong},
		{row(b, open(one, 2)), end(at(2, 1), 0), order},
		{row(b, open(one, 2), end(one, 3)), end(one, 3), order},
		{row(b, open(one, 2), end(one, 3)), end(one, 0), order},
		{row(b, open(one, 2), open(two, 2), end(one, 3)), end(two, 4), ok},
		{row(b, red(at(2, 1), 0, 0, 0, "a")), end(at(2, 1), 0), order},
		{row(b, open(one, 2), end(one, 3), told(one)), end(one, 3), order},
		{row(b), told(one), order},
		{row(b, open(one, 2)), told(one), order},
		{row(b, open(one, 2), end(one, 0)), told(one), ok},
		{row(b, open(one, 2), end(one, 6)), told(one), ok},
		{row(b, open(one, 2), open(two, 2), end(one, 0)), told(two), order},
		{row(b, open(one, 2), open(two, 2), end(two, 1)), told(two), ok},
		{row(b, open(one, 2), end(one, 0), told(one)), told(one), order},
		{row(b, past(at(2, 1), 1, 0)), told(at(2, 1)), order},
	})
}

func TestP81RowOfRed(t *testing.T) {
	s := at(2, 1)
	abc := red(s, 5, 0, 0, "abc") // up to 8
	sized := red(s, 5, 0, 12, "abc")
	known := red(s, 5, 10, 0, "abc")
	both := red(s, 5, 10, 12, "abc")
	tried(t, []try{
		{row(b), abc, ok},
		{row(b), both, ok},
		{row(b), red(at(1, 1), 5, 0, 0, "abc"), order}, // its own
		{row(b, open(at(1, 1), 2)), red(at(1, 1), 5, 0, 0, "abc"), order},
		{row(b), red(s, whole-3, whole, whole, "abc"), ok},
		{row(b), red(s, whole-2, 0, 0, "abc"), wrong},
		{row(b), red(s, 5, 7, 0, "abc"), wrong},
		{row(b), red(s, 5, 0, 7, "abc"), wrong},
		{row(b), red(s, 5, 0, 0, ""), wrong},
		{row(b, abc), abc, ok},
		{row(b, abc), other(abc), order},
		{row(b, abc), other(red(s, 0, 9, 9, "a")), order},
		{row(b, abc), red(s, 0, 7, 0, "ab"), order}, // below a byte that came
		{row(b, abc), red(s, 0, 8, 0, "ab"), ok},
		{row(b, abc), red(s, 0, 9, 0, "ab"), ok},
		{row(b, abc), red(s, 0, 0, 7, "ab"), order},
		{row(b, abc), red(s, 0, 0, 8, "ab"), ok},
		{row(b, abc), red(s, 0, 8, 8, "ab"), ok},
		{row(b, abc), red(s, 0, 7, 8, "ab"), order},
		{row(b, abc), red(s, 0, 8, 7, "ab"), wrong},
		{row(b, known), red(s, 0, 10, 0, "ab"), ok},
		{row(b, known), red(s, 0, 9, 0, "ab"), order},
		{row(b, known), red(s, 0, 11, 0, "ab"), order},
		{row(b, known), red(s, 0, 0, 0, "ab"), order},
		{row(b, known), red(s, 0, 10, 10, "ab"), ok},
		{row(b, known), red(s, 0, 10, 99, "ab"), ok},
		{row(b, known), red(s, 8, 10, 0, "ab"), ok},
		{row(b, known), red(s, 9, 0, 0, "ab"), order},
		{row(b, sized), red(s, 0, 0, 12, "ab"), ok},
		{row(b, sized), red(s, 0, 0, 11, "ab"), order},
		{row(b, sized), red(s, 0, 0, 13, "ab"), order},
		{row(b, sized), red(s, 0, 0, 0, "ab"), order},
		{row(b, sized), red(s, 0, 8, 0, "ab"), order},
		{row(b, sized), red(s, 0, 8, 12, "ab"), ok},
		{row(b, sized), red(s, 0, 12, 12, "ab"), ok},
		{row(b, sized), red(s, 0, 7, 12, "ab"), order},
		{row(b, both), red(s, 0, 10, 12, "ab"), ok},
		{row(b, both), red(s, 0, 10, 0, "ab"), order},
		{row(b, both), red(s, 0, 0, 12, "ab"), order},
		{row(b, both), red(s, 0, 10, 11, "ab"), order},
		{row(b, both), red(s, 0, 11, 12, "ab"), order},
		{row(b, both), other(both), order},
		{row(b, both), other(red(at(2, 2), 0, 3, 4, "ab")), ok}, // another session
		{row(b, both), other(red(at(3, 1), 0, 3, 4, "ab")), ok},
		{row(b, red(s, 0, 1, 0, "a")), red(s, 0, 1, 0, "b"), ok},
		{row(b, red(s, 0, 1, 0, "a"), done(s)), red(s, 0, 1, 0, "a"), order},
		{row(b, past(s, 1, 0)), red(s, 0, 1, 0, "a"), order},
		{row(b, gone(s, 0)), abc, order},
		{row(b, gone(s, 0), heard(s)), abc, order},
		{row(b, red(s, 0, 1, 0, "a"), done(s), shut(s)), red(s, 0, 1, 0, "a"), order},
		{row(b, tomb(2, 1, 2)), abc, order},
		{row(b, tomb(2, 2, 3)), abc, ok},
		{row(b, tomb(3, 1, 2)), abc, ok},
		{row(b, abc, tomb(2, 1, 2)), abc, ok}, // it is there, whatever the tomb says
		{row(b, abc, tomb(2, 1, 2)), red(at(2, 2), 0, 0, 0, "a"), ok},
	})
}

func TestP81RowOfDone(t *testing.T) {
	s := at(2, 1)
	tried(t, []try{
		{row(b), done(s), order},
		{row(b, red(s, 0, 0, 0, "abc")), done(s), order}, // where the red part ends is not known
		{row(b, red(s, 0, 0, 3, "abc")), done(s), order},
		{row(b, red(s, 0, 4, 0, "abc")), done(s), order},
		{row(b, red(s, 1, 4, 0, "abc")), done(s), order},
		{row(b, red(s, 0, 4, 0, "a"), red(s, 2, 4, 0, "cd")), done(s), order},
		{row(b, red(s, 0, 4, 0, "a"), red(s, 2, 4, 0, "cd"), red(s, 1, 4, 0, "b")), done(s), ok},
		{row(b, red(s, 0, 3, 0, "abc")), done(s), ok},
		{row(b, red(s, 0, 3, 9, "abc")), done(s), ok},
		{row(b, red(s, 0, 0, 0, "abc"), red(s, 0, 3, 0, "a")), done(s), ok},
		{row(b, red(s, 0, 3, 0, "abc")), done(at(2, 2)), order},
		{row(b, red(s, 0, 3, 0, "abc")), done(at(3, 1)), order},
		{row(b, red(s, 0, 3, 0, "abc"), done(s)), done(s), order},
		{row(b, red(s, 0, 3, 0, "abc"), done(s), heard(s)), done(s), order},
		{row(b, red(s, 0, 3, 0, "abc"), done(s), shut(s)), done(s), order},
		{row(b, red(s, 0, 3, 0, "abc"), gone(s, 0)), done(s), order},
		{row(b, gone(s, 0), heard(s)), done(s), order},
		{row(b, past(s, 3, 0)), done(s), order},
		{row(b, open(at(1, 1), 2)), done(at(1, 1)), order},
		{row(b, tomb(2, 1, 2)), done(s), order},
		{row(b, red(s, 0, 3, 0, "abc"), tomb(2, 1, 2)), done(s), ok},
	})
}

func TestP81RowOfPast(t *testing.T) {
	s := at(2, 1)
	tried(t, []try{
		{row(b), past(s, 1, 0), ok},
		{row(b), past(s, whole, whole), ok},
		{row(b), past(s, 0, 0), wrong},
		{row(b), past(s, 3, 2), wrong},
		{row(b), past(at(1, 1), 1, 0), order},
		{row(b, open(at(1, 1), 2)), past(at(1, 1), 1, 0), order},
		{row(b, past(s, 1, 0)), past(s, 1, 0), order},
		{row(b, past(s, 1, 0)), past(at(2, 2), 1, 0), ok},
		{row(b, past(s, 1, 0)), past(at(3, 1), 1, 0), ok},
		{row(b, red(s, 0, 0, 0, "a")), past(s, 1, 0), order},
		{row(b, gone(s, 0)), past(s, 1, 0), order},
		{row(b, gone(s, 0), heard(s)), past(s, 1, 0), order},
		{row(b, past(s, 1, 0), shut(s)), past(s, 1, 0), order},
		{row(b, tomb(2, 1, 2)), past(s, 1, 0), order},
		{row(b, tomb(2, 2, 3)), past(s, 1, 0), ok},
		{row(b, tomb(3, 1, 2)), past(s, 1, 0), ok},
	})
}

func TestP81RowOfGone(t *testing.T) {
	s := at(2, 1)
	abc := red(s, 0, 3, 4, "abc")
	tried(t, []try{
		{row(b), gone(s, 0), ok},
		{row(b), gone(s, 5), ok},
		{row(b), gone(s, 6), wrong},
		{row(b), gone(at(1, 1), 0), order},
		{row(b, open(at(1, 1), 2)), gone(at(1, 1), 0), order},
		{row(b, abc), gone(s, 3), ok},
		{row(b, abc, tomb(2, 1, 2)), gone(s, 3), ok},
		{row(b, abc), gone(at(2, 2), 3), ok},
		{row(b, abc, done(s)), gone(s, 3), order},
		{row(b, abc, done(s), heard(s)), gone(s, 3), order},
		{row(b, abc, done(s), shut(s)), gone(s, 3), order},
		{row(b, abc, done(s), shut(s), heard(s)), gone(s, 3), order},
		{row(b, past(s, 1, 0)), gone(s, 3), order},
		{row(b, gone(s, 3)), gone(s, 3), order},
		{row(b, gone(s, 3), heard(s)), gone(s, 3), order},
		{row(b, tomb(2, 1, 2)), gone(s, 3), order},
		{row(b, tomb(2, 2, 3)), gone(s, 3), ok},
		{row(b, tomb(3, 1, 2)), gone(s, 3), ok},
	})
}

func TestP81RowsOfHeardAndShut(t *testing.T) {
	s := at(2, 1)
	abc := red(s, 0, 3, 4, "abc")
	tried(t, []try{
		{row(b), heard(s), order},
		{row(b, abc), heard(s), order},
		{row(b, abc, done(s)), heard(s), ok},
		{row(b, abc, done(s)), heard(at(2, 2)), order},
		{row(b, abc, done(s), shut(s)), heard(s), ok},
		{row(b, abc, done(s), heard(s)), heard(s), order},
		{row(b, abc, done(s), heard(s), shut(s)), heard(s), order},
		{row(b, past(s, 1, 0)), heard(s), order},
		{row(b, gone(s, 3)), heard(s), ok},
		{row(b, abc, gone(s, 3)), heard(s), ok},
		{row(b, gone(s, 3), tomb(2, 1, 2)), heard(s), ok},
		{row(b, gone(s, 3), heard(s)), heard(s), order},
		{row(b, tomb(2, 1, 2)), heard(s), order},
		{row(b, open(at(1, 1), 2), end(at(1, 1), 0)), heard(at(1, 1)), order},
		{row(b), shut(s), order},
		{row(b, abc), shut(s), order},
		{row(b, abc, done(s)), shut(s), ok},
		{row(b, abc, done(s)), shut(at(2, 2)), order},
		{row(b, abc, done(s), heard(s)), shut(s), ok},
		{row(b, abc, done(s), shut(s)), shut(s), order},
		{row(b, abc, done(s), shut(s), heard(s)), shut(s), order},
		{row(b, past(s, 1, 0)), shut(s), ok},
		{row(b, past(s, 1, 0), tomb(2, 1, 9)), shut(s), ok},
		{row(b, past(s, 1, 0), shut(s)), shut(s), order},
		{row(b, gone(s, 3)), shut(s), order},
		{row(b, abc, gone(s, 3)), shut(s), order},
		{row(b, tomb(2, 1, 2)), shut(s), order},
		{row(b, open(at(1, 1), 2), end(at(1, 1), 0)), shut(at(1, 1)), order},
	})
}

func TestP81RowOfTomb(t *testing.T) {
	far := api.Record{Kind: api.RecTomb, Size: 2, Spans: comb(top-2*graves, graves)}
	tried(t, []try{
		{row(b), tomb(2, 1, 2), ok},
		{row(b), tomb(1, 1, 2), order},
		{row(boot(9, 1)), tomb(9, 1, 2), order},
		{row(boot(9, 1)), tomb(1, 1, 2), ok},
		{row(b), tomb(top, 1, top), ok},
		{row(b), far, ok},
		{row(b), tomb(2), wrong},
		{row(b), tomb(0, 1, 2), wrong},
		{row(b), tomb(2, 0, 2), wrong},
		{row(b), tomb(2, 1, 2, 2, 3), wrong},
		{row(b), api.Record{Kind: api.RecTomb, Size: 2, Spans: comb(1, graves+1)}, wrong},
		{row(b, tomb(2, 3, 5)), tomb(2, 3, 5), ok},
		{row(b, tomb(2, 3, 5)), tomb(2, 5, 6), ok},
		{row(b, tomb(2, 3, 5)), tomb(2, 1, 2, 9, 10), ok},
		{row(b, tomb(2, 3, 5)), tomb(3, 3, 5), ok},
		{row(b, tomb(2, 3, 5)), far, ok},
		{row(b, red(at(2, 4), 0, 0, 0, "a")), tomb(2, 3, 5), ok},
		{row(b, gone(at(2, 4), 0)), tomb(2, 3, 5), ok},
	})
}

// What may not be is refused as that, whatever could follow.
func TestP81WrongRecords(t *testing.T) {
	s := at(2, 1)
	var l []api.Record
	for _, kind := range []int{-1, 0, 13, 99, math.MaxInt, math.MinInt} {
		l = append(l, api.Record{Kind: kind}, api.Record{Kind: kind, Session: s})
	}
	for _, r := range append(plain(), boot(1, 2)) {
		for _, n := range []int{-1, top + 1, math.MinInt} {
			for _, change := range []func(*api.Record){
				func(r *api.Record) { r.Session.Origin = n },
				func(r *api.Record) { r.Session.Number = n },
				func(r *api.Record) { r.Peer = n },
				func(r *api.Record) { r.Service = n },
				func(r *api.Record) { r.Offset = n },
				func(r *api.Record) { r.Red = n },
				func(r *api.Record) { r.Size = n },
				func(r *api.Record) { r.How = n },
				func(r *api.Record) { r.Spans = spans(n, 9) },
				func(r *api.Record) { r.Data = some(whole + 1) },
			} {
				x := r
				change(&x)
				l = append(l, x)
			}
		}
	}
	for _, ahead := range [][]api.Record{nil, row(b), row(b, red(s, 0, 0, 0, "a")), row(b, tomb(2, 1, 2), open(at(1, 1), 2))} {
		tb, m := mustLoad(t, ahead...), newModel(ahead...)
		for _, r := range l {
			refuses(t, tb, r, wrong)
			_, n, e := table.Load(append(row(ahead...), r))
			fatalIf(t, n != len(ahead) || e != wrong, "Load, and %s: %d %d", brief{r}, n, e)
		}
		stands(t, tb, m)
	}
}

// Closed is asked of sessions that may not be, too.
func TestP83ClosedOfWhatever(t *testing.T) {
	x := mustLoad(t, b, tomb(2, 1, top), tomb(top, 5, 6))
	for _, s := range []api.Session{at(2, 1), at(2, 77), at(2, top-1), at(top, 5)} {
		fatalIf(t, !x.Closed(s), "%v is not closed", s)
	}
	for _, n := range []int{math.MinInt, -top, -1, 0, top, top + 1, math.MaxInt - 1, math.MaxInt} {
		for _, s := range []api.Session{at(2, n), at(n, 1), at(n, n), at(n, 5)} {
			fatalIf(t, x.Closed(s) != (s == at(top, 5)), "%v: %v", s, x.Closed(s))
		}
	}
	for _, s := range []api.Session{at(1, 1), at(3, 1), at(2, 0), at(top, 4), at(top, 6)} {
		fatalIf(t, x.Closed(s), "%v is closed", s)
	}
}

// Which imports are closed, at each state that one can have.
func TestP83ClosedImports(t *testing.T) {
	s, next := at(2, 5), at(2, 6)
	abc := red(s, 0, 3, 4, "abc")
	for i, x := range []struct {
		l    []api.Record
		want bool
	}{
		{row(), false},
		{row(abc), false},
		{row(abc, done(s)), false},
		{row(abc, done(s), heard(s)), false},
		{row(past(s, 3, 0)), false},
		{row(abc, done(s), shut(s)), true},
		{row(abc, done(s), shut(s), heard(s)), true},
		{row(abc, done(s), heard(s), shut(s)), true},
		{row(past(s, 3, 0), shut(s)), true},
		{row(gone(s, 0)), true},
		{row(abc, gone(s, 0)), true},
		{row(gone(s, 0), heard(s)), true},
		{row(tomb(2, 5, 6)), true},
		{row(tomb(2, 1, 5, 6, 9)), false},
		{row(abc, tomb(2, 1, 9)), false}, // there is an import, and it is open
		{row(abc, tomb(2, 1, 9), done(s)), false},
		{row(abc, tomb(2, 1, 9), done(s), shut(s)), true},
		{row(past(s, 3, 0), tomb(2, 1, 9)), false},
		{row(past(s, 3, 0), tomb(2, 1, 9), shut(s)), true},
	} {
		tb := mustLoad(t, append(row(b), x.l...)...)
		fatalIf(t, tb.Closed(s) != x.want, "%d: %v", i, tb.Closed(s))
		m := newModel(append(row(b), x.l...)...)
		fatalIf(t, tb.Closed(next) != m.closed(next) || m.closed(s) != x.want, "%d: %v", i, tb.Closed(next))
		fatalIf(t, tb.Closed(at(1, 5)) || tb.Closed(at(3, 5)), "%d: another origin's is closed", i)
	}
}

// Load tells the first record that is refused, whatever stands behind it.
func TestP82LoadTellsTheFirst(t *testing.T) {
	good := row(b, open(at(1, 1), 2), red(at(2, 1), 0, 3, 0, "abc"), end(at(1, 1), 2), done(at(2, 1)), told(at(1, 1)), heard(at(2, 1)), shut(at(2, 1)), gone(at(3, 4), 1), tomb(4, 1, 2), skip(9), boot(1, 2))
	for place := range len(good) + 1 {
		for _, bad := range []struct {
			r api.Record
			e api.Errno
		}{{api.Record{Kind: 99}, wrong}, {boot(5, 1), order}, {tomb(1, 1, 2), order}} {
			if place == 0 && bad.r.Kind == 1 {
				continue
			}
			l := append(row(good[:place]...), bad.r)
			for _, behind := range [][]api.Record{nil, good[place:], row(api.Record{Kind: -3}), row(told(at(8, 8)), b)} {
				x, n, e := table.Load(append(row(l...), behind...))
				fatalIf(t, x != nil || n != place || e != bad.e, "%s at %d: %v, %d, %d", brief{bad.r}, place, x, n, e)
			}
		}
	}
	fatalIf(t, fmt.Sprint(mustLoad(t, good...).State().Tombs) != "[{2 [{1 2}]} {4 [{1 2}]}]", "%s", brief{mustLoad(t, good...).State()})
}
