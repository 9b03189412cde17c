package plan_test

import (
	"testing"

	"lantern/api"
	"lantern/plan"
)

func TestP92Examples(t *testing.T) {
	l := example()
	for tick, want := range map[int]int{9: 0, 10: 2, 14: 2, 15: 5, 19: 5, 20: 3, 29: 3, 30: 0} {
		fatalIf(t, plan.Rate(l, 7, tick) != want, "Rate at %d: %d", tick, plan.Rate(l, 7, tick))
	}
	for tick, want := range map[int]int{0: 10, 9: 10, 10: 15, 14: 15, 15: 20, 19: 20, 20: 30, 29: 30, 30: -1} {
		fatalIf(t, plan.Next(l, 7, tick) != want, "Next at %d: %d", tick, plan.Next(l, 7, tick))
	}
	for _, x := range [][4]int{{7, 0, 40, 65}, {7, 12, 16, 11}, {7, 16, 12, 0}, {7, 16, 16, 0}, {8, 5, 9, 4}, {8, 0, end, end}} {
		n := plan.Total(l, x[0], x[1], x[2])
		fatalIf(t, n != x[3], "Total of %d from %d to %d: %d", x[0], x[1], x[2], n)
	}
	for _, x := range [][4]int{{7, 0, 1, 10}, {7, 0, 2, 10}, {7, 0, 3, 11}, {7, 12, 11, 15}, {7, 12, 12, 16}, {7, 0, 65, 29}, {7, 0, 66, -1}, {7, 12, 0, 12}} {
		n := plan.When(l, x[0], x[1], x[2])
		fatalIf(t, n != x[3], "When of %d from %d, %d: %d", x[0], x[1], x[2], n)
	}
}

// Nobody's contacts: the rate is 0 at all ticks, whatever the number of the peer is.
func TestP92PeersThatNoContactNames(t *testing.T) {
	for _, l := range [][]api.Contact{nil, {}, example(), {contact(1, 0, end, fast)}, {contact(top, 0, end, fast)}} {
		for _, peer := range []int{9, 0, -7, -8, top - 1, top + 1, maxInt, minInt, 1<<32 + 7} {
			for _, tick := range []int{minInt, -1, 0, 12, end - 1, end, end + 1, maxInt} {
				rate, next, total := plan.Rate(l, peer, tick), plan.Next(l, peer, tick), plan.Total(l, peer, tick, maxInt)
				fatalIf(t, rate != 0 || next != -1 || total != 0, "%v: of %d at %d: Rate %d, Next %d, Total %d", l, peer, tick, rate, next, total)
				never, at := plan.When(l, peer, tick, 1), plan.When(l, peer, tick, 0)
				fatalIf(t, never != -1 || at != asCounted(tick), "%v: When of %d from %d: %d, of none %d", l, peer, tick, never, at)
			}
		}
	}
}

// Ticks below 0 count as 0, those above MaxTick as MaxTick, at which nothing is open any more.
func TestP92TicksThatCountAsOthers(t *testing.T) {
	l := []api.Contact{contact(1, 0, 3, 4), contact(1, end-2, end, 5), contact(2, 0, end, 6), contact(3, 5, 6, 7)}
	for peer := 1; peer <= 4; peer++ {
		for _, x := range [][2]int{{-1, 0}, {-5, 0}, {minInt, 0}, {end + 1, end}, {end + 77, end}, {maxInt, end}} {
			asked, counts := x[0], x[1]
			fatalIf(t, plan.Rate(l, peer, asked) != plan.Rate(l, peer, counts), "Rate of %d at %d: %d", peer, asked, plan.Rate(l, peer, asked))
			fatalIf(t, plan.Next(l, peer, asked) != plan.Next(l, peer, counts), "Next of %d at %d: %d", peer, asked, plan.Next(l, peer, asked))
			for _, other := range []int{minInt, -1, 0, 1, 2, 5, end - 1, end, end + 1, maxInt} {
				there, back := plan.Total(l, peer, asked, other), plan.Total(l, peer, other, asked)
				fatalIf(t, there != plan.Total(l, peer, counts, other), "Total of %d from %d to %d: %d", peer, asked, other, there)
				fatalIf(t, back != plan.Total(l, peer, other, counts), "Total of %d from %d to %d: %d", peer, other, asked, back)
				agrees(t, l, peer, other, asked, 9)
				agrees(t, l, peer, asked, other, 9)
			}
			for _, many := range []int{minInt, -1, 0, 1, 4, 5, 12, 13, 22, 23, 6 * end, maxInt} {
				n := plan.When(l, peer, asked, many)
				fatalIf(t, n != plan.When(l, peer, counts, many), "When of %d from %d, %d: %d", peer, asked, many, n)
			}
		}
		rate, next := plan.Rate(l, peer, end), plan.Next(l, peer, end)
		fatalIf(t, rate != 0 || next != -1, "at MaxTick: Rate of %d %d, Next %d", peer, rate, next)
		fatalIf(t, plan.When(l, peer, end, 1) != -1, "When of %d from MaxTick: %d", peer, plan.When(l, peer, end, 1))
		fatalIf(t, plan.When(l, peer, maxInt, 0) != end, "When of %d from above MaxTick, of none: %d", peer, plan.When(l, peer, maxInt, 0))
		fatalIf(t, plan.When(l, peer, minInt, 0) != 0, "When of %d from below 0, of none: %d", peer, plan.When(l, peer, minInt, 0))
	}
}

// What overlaps adds up; what touches, or follows, with the same rate has no seam.
func TestP92ContactsBesideOneAnother(t *testing.T) {
	for _, x := range []struct {
		name  string
		l     []api.Contact
		marks []int // the Nexts, from 0 on
	}{
		{"one", []api.Contact{contact(1, 5, 9, 2)}, []int{5, 9}},
		{"one from the first tick on", []api.Contact{contact(1, 0, 9, 2)}, []int{9}},
		{"overlapping", []api.Contact{contact(1, 5, 9, 2), contact(1, 7, 12, 2)}, []int{5, 7, 9, 12}},
		{"within", []api.Contact{contact(1, 5, 12, 2), contact(1, 7, 9, 2)}, []int{5, 7, 9, 12}},
		{"the same twice", []api.Contact{contact(1, 5, 9, 2), contact(1, 5, 9, 2)}, []int{5, 9}},
		{"touching, with the same rate", []api.Contact{contact(1, 5, 7, 2), contact(1, 7, 9, 2)}, []int{5, 9}},
		{"touching, with another rate", []api.Contact{contact(1, 5, 7, 2), contact(1, 7, 9, 3)}, []int{5, 7, 9}},
		{"following, with the same rate", []api.Contact{contact(1, 5, 7, 2), contact(1, 8, 9, 2)}, []int{5, 7, 8, 9}},
		{"the one ends, two others open with its rate", []api.Contact{contact(1, 5, 7, 5), contact(1, 7, 9, 2), contact(1, 7, 9, 3)}, []int{5, 9}},
		{"the one ends, another one opens, a third stays", []api.Contact{contact(1, 5, 7, 5), contact(1, 7, 9, 5), contact(1, 0, end, 1)}, []int{5, 9, end}},
		{"three that touch, with the same rate", []api.Contact{contact(1, 2, 3, 1), contact(1, 0, 2, 1), contact(1, 3, end, 1)}, []int{end}},
		{"up to MaxTick", []api.Contact{contact(1, end-1, end, 3)}, []int{end - 1, end}},
		{"beside another peer's", []api.Contact{contact(1, 5, 9, 2), contact(2, 7, 12, 2), contact(2, 0, 6, 1)}, []int{5, 9}},
	} {
		tick := 0
		for _, want := range append(x.marks, -1) {
			n := plan.Next(x.l, 1, tick)
			fatalIf(t, n != want, "%s: Next at %d: %d, not %d", x.name, tick, n, want)
			tick = n
		}
	}
}

func TestP92NumbersOfSegments(t *testing.T) {
	l := []api.Contact{contact(1, 10, 13, 4), contact(1, 20, 22, 7), contact(2, 0, 40, 1), contact(1, 21, 22, 3)}
	for _, x := range []struct{ from, many, want int }{
		{0, minInt, 0}, {0, -1, 0}, {0, 0, 0}, {15, 0, 15}, {11, -3, 11}, {30, 0, 30},
		{0, 1, 10}, {10, 1, 10}, {0, 4, 10}, {0, 5, 11}, {0, 8, 11}, {0, 9, 12}, {0, 12, 12},
		{0, 13, 20}, {0, 19, 20}, {0, 20, 21}, {0, 29, 21}, {0, 30, -1}, {0, maxInt, -1},
		{11, 4, 11}, {11, 8, 12}, {11, 9, 20}, {12, 4, 12}, {12, 5, 20}, {13, 1, 20}, {13, 7, 20}, {13, 8, 21},
		{20, 17, 21}, {20, 18, -1}, {21, 10, 21}, {21, 11, -1}, {22, 1, -1}, {end, 1, -1},
	} {
		n := plan.When(l, 1, x.from, x.many)
		fatalIf(t, n != x.want, "When from %d, %d: %d, not %d", x.from, x.many, n, x.want)
	}
	whole := []api.Contact{contact(1, 0, end, fast)}
	for many, want := range map[int]int{1: 0, fast: 0, fast + 1: 1, fast * end: end - 1, fast*end - fast: end - 2, fast*end - fast + 1: end - 1, fast*end + 1: -1, maxInt: -1} {
		n := plan.When(whole, 1, 0, many)
		fatalIf(t, n != want, "When of all ticks, %d: %d, not %d", many, n, want)
	}
	fatalIf(t, plan.Total(whole, 1, minInt, maxInt) != fast*end, "Total of all ticks: %d", plan.Total(whole, 1, minInt, maxInt))
}

// counts wants all answers of a short plan as they come out tick by tick.
func counts(t *testing.T, l []api.Contact, peer int, ticks []int) {
	t.Helper()
	y := newTally(l, peer)
	for _, tick := range ticks {
		n := plan.Rate(l, peer, tick)
		fatalIf(t, n != y.rate(tick), "%v: Rate of %d at %d: %d, not %d", l, peer, tick, n, y.rate(tick))
		n = plan.Next(l, peer, tick)
		fatalIf(t, n != y.next(tick), "%v: Next of %d at %d: %d, not %d", l, peer, tick, n, y.next(tick))
		for _, to := range ticks {
			n = plan.Total(l, peer, tick, to)
			fatalIf(t, n != y.total(tick, to), "%v: Total of %d from %d to %d: %d, not %d", l, peer, tick, to, n, y.total(tick, to))
		}
		for many := -1; many <= y.total(tick, end)+1; many++ {
			n = plan.When(l, peer, tick, many)
			fatalIf(t, n != y.when(tick, many), "%v: When of %d from %d, %d: %d, not %d", l, peer, tick, many, n, y.when(tick, many))
		}
	}
}

// around are the ticks from one on, up to and including another one, and one to each side.
func around(from, to int) (l []int) {
	for tick := from - 1; tick <= to+1; tick++ {
		l = append(l, tick)
	}
	return l
}

// Every plan of two contacts within four ticks, at the beginning, in the middle and at the end of time.
func TestP92EveryShortPlan(t *testing.T) {
	for _, base := range []int{0, 1000, end - 4} {
		ticks := around(base, base+4)
		lists(contacts([]int{1, 2}, base, base+4, []int{1, 2, 3}), 2, func(l []api.Contact) {
			counts(t, l, 1, ticks)
			counts(t, l, 2, ticks)
		})
	}
}

// Every plan of three contacts of one peer within three ticks.
func TestP92EveryShortPlanOfThree(t *testing.T) {
	for _, base := range []int{0, end - 3} {
		ticks := around(base, base+3)
		lists(contacts([]int{1}, base, base+3, []int{1, 2}), 3, func(l []api.Contact) { counts(t, l, 1, ticks) })
	}
}

func TestP93WhatIsNoPlan(t *testing.T) {
	var all [][]api.Contact
	for _, c := range mayNots() {
		all = append(all, []api.Contact{c}, with(example(), c), with([]api.Contact{c}, example()...))
	}
	all = append(all,
		with(example(), contact(7, 12, 13, 999)),
		with(example(), contact(9, 50, 60, fast), contact(9, 59, 61, 1)), // of another peer than those that are asked, at other ticks
		with(example(), contact(7, 90, 91, fast), contact(7, 90, 91, fast)),
		crowd(limit+1),
		with(crowd(limit), example()...))
	for _, l := range all {
		fatalIf(t, plan.Right(l) == ok, "%v is taken for a plan", l)
		for _, peer := range []int{0, 1, 7, 8, 9, 12, maxInt} {
			for _, tick := range []int{minInt, -1, 0, 12, 59, end, maxInt} {
				for _, many := range []int{minInt, -1, 0, 1, 2, maxInt} {
					answersNothing(t, l, peer, tick, tick/2+40, many)
				}
			}
		}
	}
	l := with(example(), contact(7, 12, 13, 998)) // just a plan
	fatalIf(t, plan.Right(l) != ok || plan.Rate(l, 7, 12) != fast, "Right %d, Rate %d", plan.Right(l), plan.Rate(l, 7, 12))
	many := crowd(limit)
	fatalIf(t, plan.Rate(many, 1, 5) != 5, "Rate of MaxContacts contacts: %d", plan.Rate(many, 1, 5))
}
