package plan_test

import (
	"math/rand/v2"
	"slices"
	"testing"

	"lantern/api"
	"lantern/plan"
)

// wide are plans of any length, by chance, in which contacts overlap, touch and follow on one another.
func wide(r *rand.Rand, many int) (l []api.Contact) {
	span := 1 << (3 + r.IntN(38))
	ends := []int{0, span, end}
	for range 4 + r.IntN(20) {
		ends = append(ends, r.IntN(span))
	}
	for range many {
		a, b := ends[r.IntN(len(ends))], ends[r.IntN(len(ends))]
		if a != b {
			l = append(l, contact(1+r.IntN(3), min(a, b), max(a, b), 1+r.IntN(10)))
		}
	}
	return l
}

// edges are the ticks at which something can become another one in a plan, those beside them, and some by chance.
func edges(r *rand.Rand, l []api.Contact) []int {
	ticks := []int{minInt, -1, 0, 1, end - 1, end, end + 1, maxInt, r.IntN(end)}
	for _, c := range l {
		ticks = append(ticks, c.From-1, c.From, c.From+1, c.To-1, c.To, c.To+1, c.From+r.IntN(c.To-c.From))
	}
	r.Shuffle(len(ticks), func(a, b int) { ticks[a], ticks[b] = ticks[b], ticks[a] })
	return ticks[:min(len(ticks), 24)]
}

// chances goes through plans by chance, of up to MaxContacts contacts.
func chances(t *testing.T, times int, visit func(r *rand.Rand, l []api.Contact)) {
	t.Helper()
	for i := range times {
		r := rand.New(rand.NewPCG(9, uint64(i)))
		l := wide(r, []int{1, 2, 3, 5, 8, 20, limit}[i%7])
		fatalIf(t, plan.Right(l) != ok, "%v: %d", l, plan.Right(l))
		visit(r, l)
	}
}

func TestP92LongPlans(t *testing.T) {
	chances(t, 400, func(r *rand.Rand, l []api.Contact) {
		ticks := edges(r, l)
		for i, tick := range ticks {
			peer := 1 + i%4
			all := sumOf(l, peer, tick, end)
			for _, many := range []int{1, r.IntN(2*end) + 1, r.IntN(all+1) + 1, all, all + 1, 0} {
				agrees(t, l, peer, tick, ticks[r.IntN(len(ticks))], many)
			}
		}
	})
}

func TestP95TotalsAddUp(t *testing.T) {
	chances(t, 200, func(r *rand.Rand, l []api.Contact) {
		ticks := edges(r, l)
		slices.Sort(ticks)
		for i := 0; i+2 < len(ticks); i++ {
			a, b, c := ticks[i], ticks[i+1], ticks[i+2]
			for peer := 1; peer <= 4; peer++ {
				whole, first, second := plan.Total(l, peer, a, c), plan.Total(l, peer, a, b), plan.Total(l, peer, b, c)
				fatalIf(t, whole != first+second, "%v: Total of %d from %d by %d to %d: %d and %d, not %d", l, peer, a, b, c, first, second, whole)
				one := plan.Total(l, peer, asCounted(b), asCounted(b)+1)
				fatalIf(t, one != plan.Rate(l, peer, b), "%v: Total of %d of the tick %d: %d", l, peer, b, one)
			}
		}
	})
}

func TestP95TheRateStaysUpToNext(t *testing.T) {
	chances(t, 200, func(r *rand.Rand, l []api.Contact) {
		ticks := edges(r, l)
		for _, tick := range ticks {
			peer := 1 + r.IntN(4)
			from, next, rate := asCounted(tick), plan.Next(l, peer, tick), plan.Rate(l, peer, tick)
			behind := next
			if next == -1 {
				behind = end
			} else {
				fatalIf(t, next <= from || next > end || plan.Rate(l, peer, next) == rate, "%v: Next of %d at %d: %d", l, peer, tick, next)
			}
			n := plan.Total(l, peer, from, behind)
			fatalIf(t, n != rate*(behind-from), "%v: Total of %d from %d to its Next %d: %d", l, peer, from, behind, n)
			for _, x := range append(ticks, behind-1) {
				fatalIf(t, from <= x && x < behind && plan.Rate(l, peer, x) != rate, "%v: Rate of %d at %d, from %d to its Next %d", l, peer, x, from, behind)
			}
		}
	})
}

func TestP96WhenAndTotal(t *testing.T) {
	chances(t, 300, func(r *rand.Rand, l []api.Contact) {
		for _, from := range edges(r, l) {
			peer := 1 + r.IntN(3)
			all := plan.Total(l, peer, from, end)
			for _, many := range []int{1, 2, r.IntN(all+1) + 1, all - 1, all, all + 1, maxInt} {
				n := plan.When(l, peer, from, many)
				if many < 1 {
					continue
				}
				fatalIf(t, (n == -1) != (many > all), "%v: When of %d from %d, %d: %d, of %d in all", l, peer, from, many, n, all)
				if n == -1 {
					continue
				}
				less, enough := plan.Total(l, peer, from, n), plan.Total(l, peer, from, n+1)
				fatalIf(t, n < asCounted(from) || less >= many || enough < many, "%v: When of %d from %d, %d: %d: Totals %d, %d", l, peer, from, many, n, less, enough)
				fatalIf(t, plan.Rate(l, peer, n) < 1, "%v: When of %d from %d, %d: %d, where it is shut", l, peer, from, many, n)
			}
		}
	})
}

// told is all that a list answers at some ticks.
func told(l []api.Contact, ticks []int) (out []int) {
	out = append(out, int(plan.Right(l)))
	for i, tick := range ticks {
		for peer := 1; peer <= 4; peer++ {
			other := ticks[len(ticks)-1-i]
			out = append(out, plan.Rate(l, peer, tick), plan.Next(l, peer, tick), plan.Total(l, peer, tick, other))
			for _, many := range []int{0, 1, 5, 20} {
				out = append(out, plan.When(l, peer, tick, many))
			}
		}
	}
	return out
}

// orders goes through all orders of a list.
func orders(l []api.Contact, visit func(l []api.Contact)) {
	if len(l) == 0 {
		visit(nil)
		return
	}
	for i := range l {
		orders(slices.Delete(slices.Clone(l), i, i+1), func(rest []api.Contact) { visit(with(l[i:i+1], rest...)) })
	}
}

// pieces goes through a list with each of its contacts in two pieces, at each tick within it.
func pieces(l []api.Contact, visit func(l []api.Contact)) {
	for i, c := range l {
		for cut := c.From + 1; cut < c.To; cut++ {
			both := slices.Clone(l)
			both[i].To = cut
			c.From = cut
			visit(slices.Insert(slices.Clone(both), i, c))
			visit(with(both, c))
			c.From = l[i].From
		}
	}
}

func TestP97EveryOrder(t *testing.T) {
	visited := 0
	for _, l := range [][]api.Contact{
		{contact(1, 2, 6, 1), contact(1, 4, 9, 2), contact(2, 0, 5, 3), contact(1, 6, 7, 4), contact(2, 5, 9, 3)},
		{contact(1, 0, 9, 1), contact(1, 0, 9, 1), contact(1, 3, 4, 1), contact(1, 4, 5, 2)},
		{contact(1, 0, 5, 600), contact(1, 4, 9, 401), contact(1, 2, 3, 1), contact(2, 2, 3, 1)}, // no plan
		{contact(1, 0, 5, 600), contact(1, 4, 9, 300), contact(1, 2, 5, 100), contact(3, 2, 3, fast)},
		{contact(1, 0, 5, 1), contact(2, 4, 4, 1), contact(0, 2, 3, 1)}, // no plan
	} {
		want := told(l, around(0, 10))
		orders(l, func(x []api.Contact) {
			visited++
			fatalIf(t, !slices.Equal(told(x, around(0, 10)), want), "%v and %v answer differently", l, x)
		})
	}
	fatalIf(t, visited != 120+24+24+24+6, "%d orders", visited)
}

func TestP97EveryContactInTwoPieces(t *testing.T) {
	for _, base := range []int{0, end - 5} {
		ticks := around(base, base+5)
		lists(contacts([]int{1}, base, base+5, []int{1, 600}), 2, func(l []api.Contact) {
			want := told(l, ticks)
			pieces(l, func(x []api.Contact) {
				fatalIf(t, !slices.Equal(told(x, ticks), want), "%v and %v answer differently", l, x)
			})
		})
	}
}

// A plan by chance, put in another order and cut into pieces as often as there is room.
func TestP97LongPlans(t *testing.T) {
	chances(t, 200, func(r *rand.Rand, l []api.Contact) {
		ticks := edges(r, l)
		want := told(l, ticks)
		x := slices.Clone(l)
		for range 10 * limit {
			i := r.IntN(len(x) + 1)
			if i < len(x) && len(x) < limit && x[i].To-x[i].From > 1 {
				cut, c := x[i].From+1+r.IntN(x[i].To-x[i].From-1), x[i]
				x[i].To, c.From = cut, cut
				x = append(x, c)
			}
		}
		r.Shuffle(len(x), func(a, b int) { x[a], x[b] = x[b], x[a] })
		fatalIf(t, !slices.Equal(told(x, ticks), want), "%v and %v answer differently", l, x)
	})
}

// MaxContacts contacts have no room for a piece.
func TestP97TooManyPieces(t *testing.T) {
	l := crowd(limit)
	pieces(l[:1], func(x []api.Contact) {
		all := with(x, l[1:]...)
		fatalIf(t, plan.Right(all) != long || plan.Rate(all, 1, 0) != 0, "%d contacts: %d", len(all), plan.Right(all))
		all = all[:limit]
		fatalIf(t, plan.Right(all) != ok || plan.Rate(all, 1, 0) != 1, "%d contacts: %d", len(all), plan.Right(all))
	})
}
