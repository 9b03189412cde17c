package table_test

import (
	"bytes"
	"slices"
	"testing"

	"lantern/api"
	"lantern/table"
)

// lent is a list with spare room behind it, all of it filled.
func lent[T any](l []T, fill T) []T {
	b := slices.Clone(l)
	for range 40 {
		b = append(b, fill)
	}
	return b[:len(l)]
}

func lentOne(r api.Record) api.Record {
	r.Spans, r.Data = lent(r.Spans, api.Span{From: 70, To: 71}), lent(r.Data, 170)
	return r
}

// lentAll are records whose lists have spare room, as their own list does.
func lentAll(l []api.Record) []api.Record {
	var out []api.Record
	for _, r := range l {
		out = append(out, lentOne(r))
	}
	return lent(out, api.Record{Kind: 5, Size: 5})
}

// roomy is a list with its spare room.
func roomy[T any](l []T) []T { return l[:cap(l)] }

// held is all that records have, their spare room too, as a copy.
func held(l ...api.Record) (out []api.Record) {
	for _, r := range roomy(l) {
		r.Spans, r.Data = slices.Clone(roomy(r.Spans)), bytes.Clone(roomy(r.Data))
		out = append(out, r)
	}
	return out
}

// copied is a record of which nothing is shared.
func copied(r api.Record) api.Record {
	r.Spans, r.Data = slices.Clone(r.Spans), bytes.Clone(r.Data)
	return r
}

// scribble spoils a list and its spare room.
func scribble[T any](l []T, with T) {
	for i := range roomy(l) {
		roomy(l)[i] = with
	}
}

// spoilers spoil the lists of some records, one by one.
func spoilers(l []api.Record) (out []func()) {
	for _, r := range l {
		out = append(out,
			func() { scribble(r.Spans, api.Span{From: -7, To: -9}) },
			func() { scribble(r.Data, 77) })
	}
	return out
}

func spoil(l []api.Record) {
	for _, call := range spoilers(l) {
		call()
	}
	scribble(l, api.Record{Kind: 77})
}

// stateSpoilers spoil the lists within a state, one by one.
func stateSpoilers(st api.State) (out []func()) {
	for _, x := range st.Outgoing {
		out = append(out, func() { scribble(x.Data, 77) })
	}
	for _, x := range st.Incoming {
		out = append(out,
			func() { scribble(x.Data, 77) },
			func() { scribble(x.Have, api.Span{From: -7, To: -9}) })
	}
	for _, x := range st.Tombs {
		out = append(out, func() { scribble(x.Spans, api.Span{From: -7, To: -9}) })
	}
	return out
}

func spoilState(st api.State) {
	for _, call := range stateSpoilers(st) {
		call()
	}
	scribble(st.Outgoing, api.Outgoing{Peer: 77})
	scribble(st.Incoming, api.Incoming{Red: 77})
	scribble(st.Tombs, api.Tomb{Origin: 77})
}

// kit is a row of records of all kinds, at whose end there is something of all that a state can have.
func kit() []api.Record {
	s, two, three, four, five := at(2, 1), at(2, 2), at(2, 3), at(3, 1), at(3, 9)
	return row(
		b, skip(3), open(at(1, 3), 2), open(at(1, 4), 5), end(at(1, 3), 2), open(at(1, 9), 2), end(at(1, 4), 0), told(at(1, 4)),
		red(s, 4, 0, 0, "abc"), red(s, 9, 0, 0, "xyz"), red(s, 1, 20, 30, "mnopq"), red(s, 15, 20, 30, "r"),
		red(two, 0, 5, 0, "hello"), done(two), red(three, 0, 2, 0, "hi"), done(three), shut(three),
		past(four, 7, 8), gone(five, 3), gone(at(3, 4), 3), heard(at(3, 4)),
		tomb(2, 11, 12, 14, 20), tomb(4, 1, 2), red(at(2, 13), 0, 1, 0, "q"), done(at(2, 13)), heard(at(2, 13)), shut(at(2, 13)),
		boot(1, 2), skip(12))
}

// great is a row with long lists.
func great() []api.Record {
	l := row(b,
		api.Record{Kind: api.RecOpen, Session: at(1, 1), Peer: 2, Red: whole, Size: whole, Data: some(whole)},
		api.Record{Kind: api.RecRed, Session: at(2, 1), Data: some(whole)},
		api.Record{Kind: api.RecTomb, Size: 2, Spans: comb(9, graves)},
		api.Record{Kind: api.RecTomb, Size: 2, Spans: comb(3000, graves)},
		api.Record{Kind: api.RecTomb, Size: 3, Spans: comb(9, 3)})
	for _, x := range comb(0, 60) {
		l = append(l, red(at(2, 2), x.From, 0, 0, "q"))
	}
	return l
}

// P8.5: records that are handed in are left alone and not kept, by Load, by Can and by Apply.
func TestP85TakesRecords(t *testing.T) {
	for _, want := range [][]api.Record{nil, kit(), great()} {
		m := newModel(want...)
		l := lentAll(want)
		was := held(l...)
		x := mustLoad(t, l...)
		fatalIf(t, !sameAll(held(l...), was), "Load changed what is handed in")
		spoil(l)
		stands(t, x, m)

		x = mustLoad(t)
		for _, r := range want {
			r = lentOne(r)
			was := held(r)
			x.Can(r)
			fatalIf(t, !sameAll(held(r), was), "Can changed %s", brief{r})
			x.Apply(r)
			fatalIf(t, !sameAll(held(r), was), "Apply changed %s", brief{r})
			spoil(row(r))
		}
		stands(t, x, m)
	}
}

// The same memory can be handed in again and again.
func TestP85OneMemoryForAll(t *testing.T) {
	x, m := mustLoad(t, b), newModel(b)
	data, ends := make([]byte, 3, 50), make([]api.Span, 1, 50)
	for n := 1; n <= 9; n++ {
		copy(data, letters(0, 3, n))
		ends[0] = api.Span{From: 3 * n, To: 3*n + 1}
		for _, r := range []api.Record{
			{Kind: api.RecOpen, Session: at(1, n), Peer: 2, Red: 3, Size: 3, Data: data},
			{Kind: api.RecRed, Session: at(2, n), Data: data},
			{Kind: api.RecRed, Session: at(2, n), Offset: 2, Data: data},
			{Kind: api.RecTomb, Size: 3, Spans: ends},
			{Kind: api.RecTomb, Size: 3 + n, Spans: ends},
		} {
			mustApply(t, x, r)
			m.apply(copied(r))
		}
	}
	stands(t, x, m)
}

// What is refused is left alone, too.
func TestP85RefusedIsLeftAlone(t *testing.T) {
	x := mustLoad(t, combed(at(2, 1), limit)...)
	for _, r := range []api.Record{
		red(at(2, 1), 5000, 0, 0, "big"),
		other(red(at(2, 1), 5000, 0, 0, "order")),
		open(at(1, 1), 1),
		tomb(1, 1, 2, 4, 5),
		tomb(2, 4, 5, 1, 2),
		{Kind: 99, Data: some(9), Spans: comb(1, 5)},
	} {
		l := lentAll(row(b, r))
		was := held(l...)
		can, e := x.Can(l[1]), x.Apply(l[1])
		fatalIf(t, can == ok || e == ok || !sameAll(held(l...), was), "%s: %d %d", brief{r}, can, e)
		table.Load(l)
		fatalIf(t, !sameAll(held(l...), was), "%s: changed by Load", brief{r})
	}
}

// What is answered is new memory: whatever becomes of it, the table tells the same, and goes on the same.
func TestP85AnswersNewMemory(t *testing.T) {
	for _, l := range [][]api.Record{kit(), great()} {
		for cut := range len(l) + 1 {
			x, m := mustLoad(t, l[:cut]...), newModel(l[:cut]...)
			st, shots := x.State(), x.Snapshot()
			spoilState(x.State())
			spoil(x.Snapshot())
			want := m.state()
			fatalIf(t, !same(st, want) || !same(x.State(), want), "two States share memory, or one is the table's own")
			fatalIf(t, !sameAll(shots, shot(want)) || !sameAll(x.Snapshot(), shot(want)), "two Snapshots share memory, or one is the table's own")
			spoilState(st)
			fatalIf(t, !sameAll(shots, shot(want)), "State and Snapshot share memory")
			spoil(shots)
			mustApply(t, x, l[cut:]...)
			fatalIf(t, !same(x.State(), mustLoad(t, l...).State()), "what is answered is kept")
		}
	}
}

// What was answered stays as it was, whatever follows.
func TestP85AnswersStay(t *testing.T) {
	for _, l := range [][]api.Record{kit(), great()} {
		x := mustLoad(t)
		var states []api.State
		var shots [][]api.Record
		for _, r := range l {
			states, shots = append(states, x.State()), append(shots, x.Snapshot())
			mustApply(t, x, r)
		}
		for i := range l {
			want := mustLoad(t, l[:i]...)
			fatalIf(t, !same(states[i], want.State()) || !sameAll(shots[i], want.Snapshot()), "what was told behind %d records has changed", i)
		}
	}
}

// No two lists of one answer share memory, nor spare room: each is spoiled for itself, from the first on and from the last on.
func TestP85ListsLieApart(t *testing.T) {
	for _, l := range [][]api.Record{kit(), great()} {
		x := mustLoad(t, l...)
		for n := range stateSpoilers(x.State()) {
			st := x.State()
			stateSpoilers(st)[n]()
			fatalIf(t, differ(st, x.State()) > 1, "list %d of a State shares memory with another", n)
		}
		for n := range spoilers(x.Snapshot()) {
			shots, want := x.Snapshot(), x.Snapshot()
			spoilers(shots)[n]()
			count := 0
			for i := range want {
				if !sameRecord(shots[i], want[i]) {
					count++
				}
			}
			fatalIf(t, count > 1, "list %d of a Snapshot shares memory with another", n)
		}
	}
}

// differ counts the lists in which two states differ.
func differ(a, b api.State) (n int) {
	count := func(same bool) {
		if !same {
			n++
		}
	}
	for i := range b.Outgoing {
		count(bytes.Equal(a.Outgoing[i].Data, b.Outgoing[i].Data))
	}
	for i := range b.Incoming {
		count(bytes.Equal(a.Incoming[i].Data, b.Incoming[i].Data))
		count(slices.Equal(a.Incoming[i].Have, b.Incoming[i].Have))
	}
	for i := range b.Tombs {
		count(slices.Equal(a.Tombs[i].Spans, b.Tombs[i].Spans))
	}
	return n
}

// Tables beside one another have nothing in common, though they were made of the same records, or one of what the other told.
func TestP85TablesLieApart(t *testing.T) {
	l := kit()
	for cut := range len(l) + 1 {
		ahead := row(l[:cut]...)
		x, y := mustLoad(t, ahead...), mustLoad(t, ahead...)
		z := mustLoad(t, x.Snapshot()...)
		want := newModel(ahead...).state()
		mustApply(t, x, l[cut:]...)
		fatalIf(t, !same(y.State(), want) || !same(z.State(), want), "cut at %d: one table changed another", cut)
		mustApply(t, z, l[cut:]...)
		fatalIf(t, !same(y.State(), want) || !same(z.State(), x.State()), "cut at %d: one table changed another", cut)
		for _, s := range newModel(l...).sessions() {
			fatalIf(t, y.Closed(s) != newModel(ahead...).closed(s), "cut at %d: %v", cut, s)
		}
	}
	one, two := table.New(), table.New()
	mustApply(t, one, l...)
	fatalIf(t, !same(two.State(), api.State{Next: 1}) || !same(table.New().State(), api.State{Next: 1}), "a new table has something")
}
