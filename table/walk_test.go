package table_test

import (
	"fmt"
	"slices"
	"testing"

	"lantern/api"
	"lantern/table"
)

// walk goes from no records to every state to which rows of these records lead, however long they are, and tries all of them at each: a table does as the model does.
func walk(t *testing.T, alphabet []api.Record, states int) {
	t.Helper()
	var asked []api.Session
	for origin := range 4 {
		for number := range 7 {
			asked = append(asked, at(origin, number))
		}
	}
	rows, seen := [][]api.Record{nil}, map[string]bool{}
	for place := 0; place < len(rows); place++ {
		l := rows[place]
		m, x := newModel(l...), mustLoad(t, l...)
		stands(t, x, m)
		for _, s := range asked {
			fatalIf(t, x.Closed(s) != m.closed(s), "Closed %v behind %s: %v", s, brief{l}, x.Closed(s))
		}
		again := mustLoad(t, x.Snapshot()...)
		for _, r := range alphabet {
			want := m.can(r)
			fatalIf(t, again.Can(r) != want, "%s behind the Snapshot of %s: %d", brief{r}, brief{l}, again.Can(r))
			fatalIf(t, x.Can(r) != want, "%s behind %s: Can %d, not %d", brief{r}, brief{l}, x.Can(r), want)
			if want != ok {
				fatalIf(t, x.Apply(r) != want, "%s behind %s: not refused by Apply", brief{r}, brief{l})
				continue
			}
			grown := append(row(l...), r)
			y := mustLoad(t, grown...)
			key := fmt.Sprint(y.State())
			if !seen[key] {
				seen[key] = true
				rows = append(rows, grown)
			}
			back := mustLoad(t, append(x.Snapshot(), r)...)
			fatalIf(t, fmt.Sprint(back.State()) != key, "%s behind the Snapshot of %s: %s", brief{r}, brief{l}, brief{back.State()})
		}
		stands(t, x, m)
	}
	fatalIf(t, len(rows) != states, "%d states, not %d", len(rows), states)
}

// Boots, numbers and exports, at each place of their rows.
func TestP81WalkExports(t *testing.T) {
	l := row(boot(1, 1), boot(1, 2), boot(1, 3), boot(2, 1), boot(2, 2), skip(1), skip(2), skip(3), skip(4))
	for number := 1; number <= 3; number++ {
		s := at(1, number)
		l = append(l, open(s, 2), end(s, 0), end(s, number), told(s))
	}
	s := at(2, 1)
	l = append(l, open(s, 1), open(s, 3), open(at(1, 2), 1), end(s, 0), told(s), api.Record{Kind: 14}, other(told(s)))
	walk(t, l, 288)
}

// One import, with what may be known of its lengths, and its tomb.
func TestP81WalkOneImport(t *testing.T) {
	s := at(2, 2)
	l := row(b, done(s), gone(s, 0), gone(s, 4), heard(s), shut(s), past(s, 2, 0), past(s, 2, 3), tomb(2, 2, 3), tomb(2, 1, 2), other(past(s, 2, 2)))
	for _, lengths := range [][2]int{{0, 0}, {2, 0}, {3, 0}, {0, 2}, {0, 3}, {2, 3}, {3, 3}} {
		for offset, data := range []string{"x", "y", "z"} {
			l = append(l, red(s, offset, lengths[0], lengths[1], data))
		}
		l = append(l, other(red(s, 0, lengths[0], lengths[1], "xy")), red(s, 0, lengths[0], lengths[1], "abc"))
	}
	walk(t, l, 489)
}

// Some imports of two origins beside one another, an export, and their tombs.
func TestP81WalkImports(t *testing.T) {
	l := row(b, open(at(1, 1), 2), tomb(2, 1, 2), tomb(2, 2, 4), tomb(3, 1, 2), tomb(1, 1, 2), red(at(1, 2), 0, 1, 0, "a"), past(at(1, 1), 1, 0), gone(at(1, 1), 0))
	for _, s := range []api.Session{at(2, 1), at(2, 3), at(3, 1)} {
		l = append(l, red(s, 0, 1, 0, "a"), done(s), gone(s, 1), heard(s), shut(s), past(s, 1, 0))
	}
	walk(t, l, 3745)
}

// Each row of up to four records of all kinds, whether it can be or not: which is refused first, and why.
func TestP82LoadAllShortRows(t *testing.T) {
	s := at(2, 1)
	l := row(b, boot(1, 2), boot(2, 1), skip(1), skip(3), open(at(1, 1), 2), open(at(1, 2), 1), end(at(1, 1), 2), told(at(1, 1)), red(s, 0, 1, 0, "a"), red(s, 1, 0, 0, "b"), done(s), gone(s, 2), heard(s), shut(s), past(s, 1, 2), tomb(2, 1, 2), tomb(1, 5, 6), api.Record{Kind: 13}, api.Record{})
	var try func(m *model, ahead []api.Record, n int, e api.Errno)
	try = func(m *model, ahead []api.Record, n int, e api.Errno) {
		x, at, why := table.Load(ahead)
		fatalIf(t, at != n || why != e || (x == nil) != (e != ok), "Load of %s: %d %d, not %d %d", brief{ahead}, at, why, n, e)
		if len(ahead) == 4 {
			return
		}
		for _, r := range l {
			then, n, e := m, n, e
			if e == ok {
				n, e = len(ahead), m.can(r)
			}
			if e == ok {
				then, n = newModel(append(row(m.l...), r)...), 0
			}
			try(then, append(row(ahead...), r), n, e)
		}
	}
	try(newModel(), nil, 0, ok)
}

// Each row of records, cut at each place: what comes hangs on all of them alone.
func TestP88CutAtEachPlace(t *testing.T) {
	s, two := at(2, 1), at(2, 3)
	for _, l := range [][]api.Record{
		row(b, open(at(1, 1), 2), open(at(1, 4), 3), end(at(1, 1), 2), boot(1, 2), told(at(1, 1)), skip(9), open(at(1, 9), 2)),
		row(b, red(s, 3, 0, 0, "abc"), red(s, 1, 0, 9, "xyz"), red(two, 0, 0, 0, "q"), red(s, 0, 6, 9, "mnopqr"), done(s), shut(s), tomb(2, 3, 5), red(two, 1, 2, 0, "r"), heard(s), done(two), heard(two), boot(1, 2), shut(two)),
		row(b, gone(s, 3), past(two, 4, 5), tomb(3, 1, 9, 12, 13), heard(s), gone(at(3, 9), 0), heard(at(3, 9)), shut(two)),
	} {
		want := mustLoad(t, l...)
		for cut := range len(l) + 1 {
			x := mustLoad(t, l[:cut]...)
			stands(t, x, newModel(l[:cut]...))
			mustApply(t, x, l[cut:]...)
			fatalIf(t, !same(x.State(), want.State()) || !sameAll(x.Snapshot(), want.Snapshot()), "cut at %d: %s, not %s", cut, brief{x.State()}, brief{want.State()})
			// What stands in its Snapshot is as good as the records themselves.
			y := mustLoad(t, mustLoad(t, l[:cut]...).Snapshot()...)
			mustApply(t, y, l[cut:]...)
			fatalIf(t, !same(y.State(), want.State()), "a Snapshot at %d: %s, not %s", cut, brief{y.State()}, brief{want.State()})
			refused := slices.Concat(l[:cut], row(api.Record{Kind: 13}), l[cut:])
			_, n, e := table.Load(refused)
			fatalIf(t, n != cut || e != wrong, "refused at %d: %d %d", cut, n, e)
		}
	}
}
