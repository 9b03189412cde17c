package table_test

import (
	"math/rand"
	"slices"
	"testing"

	"lantern/api"
	"lantern/claims"
	"lantern/table"
)

// drawn is a record by chance, of few sessions, so that many can follow.
func drawn(rnd *rand.Rand) api.Record {
	s := at(1+rnd.Intn(3), 1+rnd.Intn(6))
	own := at(1, 1+rnd.Intn(40))
	offset := rnd.Intn(5)
	data := letters(offset, offset+1+rnd.Intn(4), rnd.Intn(3))
	lengths := []int{0, 0, 8, 9}
	switch rnd.Intn(16) {
	case 0:
		return boot(1+rnd.Intn(20)/19, 1+rnd.Intn(4))
	case 1:
		return skip(1 + rnd.Intn(40))
	case 2, 3:
		return open(own, 1+rnd.Intn(5))
	case 4:
		return end(own, rnd.Intn(7))
	case 5:
		return told(own)
	case 6, 7, 8, 9:
		return red(s, offset, lengths[rnd.Intn(3)], lengths[rnd.Intn(4)], data)
	case 10:
		return done(s)
	case 11:
		return gone(s, rnd.Intn(6))
	case 12:
		return heard(s)
	case 13:
		return shut(s)
	case 14:
		from := 1 + rnd.Intn(9)
		return tomb(1+rnd.Intn(4), from, from+1, from+3, from+4+rnd.Intn(2))
	}
	return past(s, 1+rnd.Intn(3), 0)
}

// tracked are the things of a table that P8.7 says once and for all.
type tracked struct {
	closed      map[api.Session]bool
	done, gone  map[api.Session]int
	next, boots int
}

func newTracked() *tracked {
	return &tracked{closed: map[api.Session]bool{}, done: map[api.Session]int{}, gone: map[api.Session]int{}, next: 1}
}

// follow holds a table to P8.7 behind a record that it took.
func (k *tracked) follow(t *testing.T, x *table.Table, r api.Record) {
	t.Helper()
	switch r.Kind {
	case api.RecDone, api.RecPast:
		k.done[r.Session]++
	case api.RecGone:
		k.gone[r.Session]++
	}
	fatalIf(t, k.done[r.Session]+k.gone[r.Session] > 1, "%s: a second end", brief{r})
	for origin := 1; origin <= 4; origin++ {
		for number := 1; number <= 14; number++ {
			s := at(origin, number)
			is := x.Closed(s)
			fatalIf(t, k.closed[s] && !is, "%v is closed no more behind %s", s, brief{r})
			k.closed[s] = is
		}
	}
	st := x.State()
	fatalIf(t, st.Next < k.next, "Next fell from %d to %d", k.next, st.Next)
	if r.Kind == api.RecBoot {
		fatalIf(t, k.boots != 0 && st.Boots != k.boots+1, "Boots %d behind %d", st.Boots, k.boots)
		k.boots = st.Boots
	}
	fatalIf(t, st.Boots != k.boots, "Boots %d, not %d", st.Boots, k.boots)
	k.next = st.Next
}

// wellFormed holds a state to P8.9.
func wellFormed(t *testing.T, st api.State) {
	t.Helper()
	fatalIf(t, !slices.IsSortedFunc(st.Outgoing, func(a, b api.Outgoing) int { return a.Session.Number - b.Session.Number }), "exports: %s", brief{st.Outgoing})
	last := api.Session{}
	for _, i := range st.Incoming {
		s := i.Session
		fatalIf(t, s.Origin < last.Origin || s.Origin == last.Origin && s.Number <= last.Number, "imports: %s", brief{st.Incoming})
		last = s
		fatalIf(t, !claims.Right(i.Have), "%s", brief{i})
		long := 0
		if len(i.Have) > 0 && !i.Heard {
			long = i.Have[len(i.Have)-1].To
		}
		fatalIf(t, len(i.Data) != long || i.Gone && len(i.Have) > 0, "%s", brief{i})
		fatalIf(t, i.Delivered && !slices.Equal(i.Have, spans(0, i.Red)), "%s", brief{i})
		fatalIf(t, i.Delivered && i.Gone || i.Shut && !i.Delivered || i.Heard && (i.Shut || i.Gone), "%s", brief{i})
	}
	for n, x := range st.Tombs {
		fatalIf(t, n > 0 && x.Origin <= st.Tombs[n-1].Origin || x.Origin == st.Id, "tombs: %s", brief{st.Tombs})
		fatalIf(t, !claims.Right(x.Spans) || len(x.Spans) > graves || len(x.Spans) == 0, "%s", brief{x})
	}
}

// Long rows by chance: as the model, with what follows of the promises at each step.
func TestP87P89LongRows(t *testing.T) {
	for seed := range int64(60) {
		rnd := rand.New(rand.NewSource(seed))
		x, m, k := mustLoad(t, b), newModel(b), newTracked()
		k.boots = 1
		took := 0
		for range 500 {
			r := drawn(rnd)
			want := m.can(r)
			if want != ok {
				refuses(t, x, r, want)
				continue
			}
			mustApply(t, x, r)
			m.apply(r)
			took++
			k.follow(t, x, r)
			wellFormed(t, x.State())
			if took%10 == 0 {
				stands(t, x, m)
			}
		}
		stands(t, x, m)
		fatalIf(t, took < 30, "only %d records followed", took)
		whole := mustLoad(t, m.l...)
		fatalIf(t, !same(whole.State(), x.State()), "Load of all: %s, not %s", brief{whole.State()}, brief{x.State()})
	}
}

// A row goes on behind its Snapshot as behind its records, wherever it is cut.
func TestP86P88SnapshotsWithin(t *testing.T) {
	for seed := range int64(40) {
		rnd := rand.New(rand.NewSource(1000 + seed))
		x, y := mustLoad(t, b), mustLoad(t, b)
		for range 300 {
			r := drawn(rnd)
			e, f := x.Apply(r), y.Apply(r)
			fatalIf(t, e != f || !same(x.State(), y.State()), "%s: %d %d, %s, %s", brief{r}, e, f, brief{x.State()}, brief{y.State()})
			if rnd.Intn(4) == 0 {
				y = mustLoad(t, y.Snapshot()...)
			}
		}
		fatalIf(t, !sameAll(x.Snapshot(), y.Snapshot()), "%s, not %s", brief{y.Snapshot()}, brief{x.Snapshot()})
		wellFormed(t, y.State())
	}
}

// What is asked changes nothing, and tells the same again, whatever the order of a map is.
func TestP83AsksChangeNothing(t *testing.T) {
	rnd := rand.New(rand.NewSource(5))
	x := mustLoad(t, b)
	for range 400 {
		x.Apply(drawn(rnd))
	}
	for i := range 30 {
		s := at(5+i*7%30, 1+i*11%30)
		mustApply(t, x, red(s, 0, 0, 0, "a"), gone(at(40+i*7%30, i+1), 0), heard(at(40+i*7%30, i+1)), open(at(1, 100+i), 2))
	}
	st, l := x.State(), x.Snapshot()
	wellFormed(t, st)
	for range 20 {
		x.Can(drawn(rnd))
		x.Closed(at(2, 1))
		fatalIf(t, !same(x.State(), st) || !sameAll(x.Snapshot(), l), "told otherwise the second time")
	}
}

// Snapshot has no record that it could do without.
func TestP84NoNeedlessRecord(t *testing.T) {
	for seed := range int64(20) {
		rnd := rand.New(rand.NewSource(2000 + seed))
		x := mustLoad(t, b)
		for range 200 {
			x.Apply(drawn(rnd))
		}
		l := x.Snapshot()
		for i := range l {
			y, _, e := table.Load(slices.Concat(l[:i], l[i+1:]))
			fatalIf(t, e == ok && same(y.State(), x.State()), "%s is not needed", brief{l[i]})
		}
	}
}

// RecNext stands in a Snapshot only where the exports do not lead to the number.
func TestP84Next(t *testing.T) {
	one, two := at(1, 1), at(1, 5)
	for i, x := range []struct{ l, want []api.Record }{
		{row(b), row(b)},
		{row(b, skip(1)), row(b)},
		{row(b, skip(2)), row(b, skip(2))},
		{row(b, open(one, 2)), row(b, open(one, 2))},
		{row(b, open(one, 2), skip(2)), row(b, open(one, 2))},
		{row(b, open(one, 2), skip(3)), row(b, open(one, 2), skip(3))},
		{row(b, skip(5), open(two, 2)), row(b, open(two, 2))},
		{row(b, open(one, 2), open(two, 2), end(two, 0)), row(b, open(one, 2), open(two, 2), end(two, 0))},
		{row(b, open(one, 2), open(two, 2), end(one, 3)), row(b, open(one, 2), end(one, 3), open(two, 2))},
		{row(b, open(one, 2), open(two, 2), end(two, 0), told(two)), row(b, open(one, 2), skip(6))},
		{row(b, open(one, 2), open(two, 2), end(one, 0), told(one)), row(b, open(two, 2))},
		{row(b, skip(top)), row(b, skip(top))},
		{row(b, open(at(1, top-1), 2)), row(b, open(at(1, top-1), 2))},
		{row(boot(1, 8), boot(1, 9)), row(boot(1, 9))},
		{row(b, gone(at(3, 1), 2), open(one, 2), skip(9), tomb(2, 1, 2)), row(b, open(one, 2), skip(9), gone(at(3, 1), 2), tomb(2, 1, 2))},
	} {
		got := mustLoad(t, x.l...).Snapshot()
		fatalIf(t, !sameAll(got, x.want), "%d: %s, not %s", i, brief{got}, brief{x.want})
	}
}

// The records of an import, at each state that it can have.
func TestP84Imports(t *testing.T) {
	s := at(2, 1)
	abc := red(s, 0, 3, 4, "abc")
	for i, x := range []struct{ l, want []api.Record }{
		{row(abc), row(abc)},
		{row(red(s, 2, 0, 0, "c"), red(s, 0, 0, 9, "a")), row(red(s, 0, 0, 9, "a"), red(s, 2, 0, 9, "c"))},
		{row(red(s, 2, 0, 0, "c"), red(s, 0, 5, 9, "a")), row(red(s, 0, 5, 9, "a"), red(s, 2, 5, 9, "c"))},
		{row(red(s, 1, 0, 0, "b"), red(s, 0, 0, 0, "a")), row(red(s, 0, 0, 0, "ab"))},
		{row(abc, done(s)), row(abc, done(s))},
		{row(abc, done(s), shut(s)), row(abc, done(s), shut(s))},
		{row(abc, done(s), heard(s)), row(past(s, 3, 4))},
		{row(past(s, 3, 4)), row(past(s, 3, 4))},
		{row(other(past(s, 3, 0))), row(other(past(s, 3, 0)))},
		{row(abc, gone(s, 2)), row(gone(s, 2))},
		{row(abc, done(s), shut(s), heard(s)), row(tomb(2, 1, 2))},
		{row(gone(at(3, 1), 1), abc, gone(at(2, 3), 2), past(at(2, 2), 1, 0)), row(abc, past(at(2, 2), 1, 0), gone(at(2, 3), 2), gone(at(3, 1), 1))},
	} {
		got := mustLoad(t, append(row(b), x.l...)...).Snapshot()
		fatalIf(t, !sameAll(got, append(row(b), x.want...)), "%d: %s, not %s", i, brief{got}, brief{x.want})
	}
}
