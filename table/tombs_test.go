package table_test

import (
	"math/rand"
	"slices"
	"testing"

	"lantern/api"
	"lantern/table"
)

// wall is a tomb in a window of numbers, each painted or not: the chapter's words, number by number.
type wall struct {
	base    int
	painted []bool
}

func newWall(base, width int) *wall { return &wall{base, make([]bool, width)} }

func (w *wall) spans() (l []api.Span) {
	for i, is := range w.painted {
		n := w.base + i
		if !is {
			continue
		}
		if i == 0 || !w.painted[i-1] {
			l = append(l, api.Span{From: n})
		}
		l[len(l)-1].To = n + 1
	}
	return l
}

func (w *wall) paint(s api.Span) {
	for n := s.From; n < s.To; n++ {
		w.painted[n-w.base] = true
	}
}

// add puts numbers in at one time; then what lies between the two lowest spans is painted, as long as there are too many.
func (w *wall) add(l ...api.Span) {
	for _, s := range l {
		w.paint(s)
	}
	for {
		all := w.spans()
		if len(all) <= graves {
			return
		}
		w.paint(api.Span{From: all[0].To, To: all[1].From})
	}
}

// tombOf is an origin's tomb.
func tombOf(x *table.Table, origin int) []api.Span {
	for _, one := range x.State().Tombs {
		if one.Origin == origin {
			return one.Spans
		}
	}
	return nil
}

// like holds a tomb to a wall, and Closed to both.
func like(t *testing.T, x *table.Table, origin int, w *wall) {
	t.Helper()
	got, want := tombOf(x, origin), w.spans()
	fatalIf(t, !slices.Equal(got, want) || len(got) > graves, "the tomb is %s, not %s", brief{got}, brief{want})
	for i, is := range w.painted {
		s := at(origin, w.base+i)
		fatalIf(t, x.Closed(s) != is, "Closed %v: %v", s, !is)
	}
	again := mustLoad(t, x.Snapshot()...)
	fatalIf(t, !same(again.State(), x.State()), "the Snapshot comes to %s", brief{again.State()})
}

// ways are those in which an import can leave.
func ways(s api.Session) [][]api.Record {
	return [][]api.Record{
		row(gone(s, 3), heard(s)),
		row(past(s, 1, 0), shut(s)),
		row(red(s, 0, 1, 0, "a"), done(s), heard(s), shut(s)),
		row(red(s, 0, 1, 0, "a"), done(s), shut(s), heard(s)),
		row(red(s, 0, 0, 0, "a"), gone(s, 0), heard(s)),
	}
}

// Imports leave one by one, each in another way, up to as many as a tomb has spans, and past that.
func TestP83TombsBySingleNumbers(t *testing.T) {
	const count = graves + 40
	for name, number := range map[string]func(i int) int{
		"rising":  func(i int) int { return 10 + 2*i },
		"falling": func(i int) int { return 10 + 2*(count-1-i) },
		"mixed":   func(i int) int { return 10 + 2*(i*77%count) },
		"wide":    func(i int) int { return 1 + 3*(i*7%count) },
		"dense":   func(i int) int { return 1 + i*77%count },
	} {
		for _, base := range []int{0, top - 4*count} {
			x, w := mustLoad(t, b), newWall(base, 4*count)
			for i := range count {
				s := at(2, base+number(i))
				if !x.Closed(s) {
					mustApply(t, x, ways(s)[i%5]...)
				}
				w.add(api.Span{From: s.Number, To: s.Number + 1})
				if i%50 == 0 || i >= graves-2 && i < graves+5 || i == count-1 {
					like(t, x, 2, w)
				}
			}
			full := len(tombOf(x, 2)) == graves
			fatalIf(t, full != (name != "dense"), "%s: %d spans", name, len(tombOf(x, 2)))
		}
	}
}

// The last number that there is goes into a tomb.
func TestP83TombOfTheLastNumber(t *testing.T) {
	for _, l := range ways(at(top, top-1)) {
		x := mustLoad(t, append(row(b), l...)...)
		fatalIf(t, !slices.Equal(tombOf(x, top), spans(top-1, top)) || !x.Closed(at(top, top-1)) || x.Closed(at(top, top)), "%s", brief{x.State()})
		mustApply(t, x, tomb(top, 1, top-1))
		fatalIf(t, !slices.Equal(tombOf(x, top), spans(1, top)), "%s", brief{x.State()})
	}
}

// As many spans as may be, and one more: the two lowest become one, and what lies between them is closed.
func TestP83TheTwoLowestBecomeOne(t *testing.T) {
	full := api.Record{Kind: api.RecTomb, Size: 2, Spans: comb(10, graves)} // 10-11 12-13 ..
	end := 10 + 2*graves - 1
	for _, x := range []struct {
		n     int
		first []api.Span
		count int
	}{
		{end + 1, spans(10, 13, 14, 15), graves},
		{end + 77, spans(10, 13, 14, 15), graves},
		{8, spans(8, 11, 12, 13), graves},
		{1, spans(1, 11, 12, 13), graves},
		{9, spans(9, 11, 12, 13), graves}, // touches: no span more
		{11, spans(10, 13, 14, 15), graves - 1},
		{end, spans(10, 11, 12, 13), graves},
		{top - 1, spans(10, 13, 14, 15), graves},
	} {
		tb := mustLoad(t, b, full)
		mustApply(t, tb, gone(at(2, x.n), 0), heard(at(2, x.n)))
		got := tombOf(tb, 2)
		fatalIf(t, len(got) != x.count || !slices.Equal(got[:2], x.first), "%d: %s", x.n, brief{got})
		by := mustLoad(t, b, full, tomb(2, x.n, x.n+1))
		fatalIf(t, !same(by.State(), tb.State()), "%d: by a RecTomb %s", x.n, brief{by.State()})
	}
}

// Whole sets go in at one time: first they are joined, and only then the lowest become one.
func TestP83TombsByWholeSets(t *testing.T) {
	even := comb(10, graves)
	for name, l := range map[string][][]api.Span{
		"behind":    {even, comb(10+2*graves, graves)},
		"ahead":     {comb(10+2*graves, graves), even},
		"again":     {even, even},
		"filling":   {even, comb(11, graves)},
		"one more":  {even, spans(3000, 3001)},
		"two more":  {even, spans(3000, 3001, 3002, 3003)},
		"over all":  {even, spans(1, 3000)},
		"by steps":  {comb(10, 300), comb(1000, 300), comb(2000, 300), comb(11, 100)},
		"at one":    {spans(2*graves, 4000), comb(1, graves-1), spans(3, 6)},
		"one joins": {even, spans(1, 2, 11, 12)}, // one by one it would be 1-13 as well as 1-2
	} {
		x, w := mustLoad(t, b), newWall(0, 4096)
		for _, set := range l {
			mustApply(t, x, api.Record{Kind: api.RecTomb, Size: 2, Spans: set})
			w.add(set...)
			like(t, x, 2, w)
		}
		fatalIf(t, len(x.State().Tombs) != 1, "%s: %d tombs", name, len(x.State().Tombs))
	}
	x := mustLoad(t, b, api.Record{Kind: api.RecTomb, Size: 2, Spans: even}, tomb(2, 1, 2, 11, 12))
	fatalIf(t, !slices.Equal(tombOf(x, 2)[:3], spans(1, 2, 10, 13, 14, 15)) || len(tombOf(x, 2)) != graves, "%s", brief{tombOf(x, 2)})
}

// Sets and single numbers by chance, in a window so narrow that they often touch.
func TestP83TombsByChance(t *testing.T) {
	for seed := range int64(12) {
		rnd := rand.New(rand.NewSource(seed))
		base, width := 1, 2600
		if seed%2 == 1 {
			base = top - width
		}
		x, w := mustLoad(t, b), newWall(base, width)
		for range 60 {
			set := newWall(base, width)
			for range rnd.Intn(graves) {
				from := base + rnd.Intn(width-3)
				set.paint(api.Span{From: from, To: from + 1 + rnd.Intn(1+int(seed)%3)})
			}
			l := set.spans()
			if len(l) == 0 || rnd.Intn(3) > 0 {
				n := base + rnd.Intn(width)
				l = spans(n, n+1)
			}
			if s := at(2, l[0].From); len(l) == 1 && l[0].To == s.Number+1 && !x.Closed(s) {
				mustApply(t, x, ways(s)[rnd.Intn(5)]...)
			} else {
				mustApply(t, x, api.Record{Kind: api.RecTomb, Size: 2, Spans: l})
			}
			w.add(l...)
		}
		like(t, x, 2, w)
	}
}

// What the lowest spans took in between them is closed for all records that would begin.
func TestP87BetweenTheLowest(t *testing.T) {
	full := api.Record{Kind: api.RecTomb, Size: 2, Spans: comb(10, graves)}
	between, later := at(2, 11), at(2, 13)
	for _, r := range []api.Record{red(between, 0, 0, 0, "a"), past(between, 1, 0), gone(between, 0)} {
		x := mustLoad(t, b, full)
		fatalIf(t, x.Closed(between) || x.Can(r) != ok, "closed too early")
		mustApply(t, x, tomb(2, 3000, 3001))
		fatalIf(t, !x.Closed(between) || x.Closed(later), "%v %v", x.Closed(between), x.Closed(later))
		refuses(t, x, r, order)
		r.Session = later
		mustApply(t, x, r)
	}
}

// An import that was there goes on, though the lowest spans took in its number; then it leaves as any other.
func TestP83OpenBetweenTheLowest(t *testing.T) {
	full := api.Record{Kind: api.RecTomb, Size: 2, Spans: comb(10, graves)}
	s := at(2, 11)
	x := mustLoad(t, b, full, red(s, 0, 0, 0, "a"), tomb(2, 3000, 3001))
	was := tombOf(x, 2)
	fatalIf(t, was[0] != api.Span{From: 10, To: 13}, "%s", brief{was})
	for _, step := range []struct {
		r      api.Record
		closed bool
	}{{red(s, 1, 2, 0, "b"), false}, {done(s), false}, {shut(s), true}, {heard(s), true}} {
		refuses(t, x, past(s, 1, 0), order)
		again := mustLoad(t, x.Snapshot()...)
		fatalIf(t, !same(again.State(), x.State()) || again.Closed(s) != x.Closed(s), "%s", brief{again.State()})
		mustApply(t, x, step.r)
		fatalIf(t, x.Closed(s) != step.closed || !slices.Equal(tombOf(x, 2), was), "behind %s: %v", brief{step.r}, x.Closed(s))
	}
	fatalIf(t, len(x.State().Incoming) != 0, "%s", brief{x.State().Incoming})
}

// Each origin has a tomb of its own; they are told by their origins, whatever came first.
func TestP83TombsOfOrigins(t *testing.T) {
	x := mustLoad(t, b)
	var want []api.Tomb
	for i := range 40 {
		origin := 2 + i*23%40
		mustApply(t, x, tomb(origin, origin, origin+2), gone(at(origin, 1000), 0), heard(at(origin, 1000)))
		want = append(want, api.Tomb{Origin: 2 + i, Spans: spans(2+i, 4+i, 1000, 1001)})
	}
	mustApply(t, x, tomb(top, 1, 2))
	want = append(want, api.Tomb{Origin: top, Spans: spans(1, 2)})
	fatalIf(t, !slices.EqualFunc(x.State().Tombs, want, sameTomb), "%s", brief{x.State().Tombs})
	full := api.Record{Kind: api.RecTomb, Size: 9, Spans: comb(10, graves)}
	mustApply(t, x, full)
	want[7].Spans = tombOf(x, 9)
	fatalIf(t, len(want[7].Spans) != graves || !slices.EqualFunc(x.State().Tombs, want, sameTomb), "a full tomb changed another")
	stands(t, x, newModel(x.Snapshot()...))
}
