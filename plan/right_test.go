package plan_test

import (
	"slices"
	"testing"

	"lantern/api"
	"lantern/plan"
)

// mays are contacts that may be: at each limit of each field.
func mays() []api.Contact {
	return []api.Contact{
		contact(1, 0, 1, 1),
		contact(top, 0, 1, 1),
		contact(top-1, 3, 4, 5),
		contact(1, 0, end, 1),
		contact(1, end-1, end, 1),
		contact(1, 0, end-1, 1),
		contact(1, 1, end, 1),
		contact(1, 5, 6, fast),
		contact(1, 5, 6, fast-1),
		contact(top, 0, end, fast),
	}
}

// mayNots are contacts that may not be: each in one way, one past a limit or far from it.
func mayNots() []api.Contact {
	return []api.Contact{
		contact(0, 0, 1, 1),
		contact(-1, 0, 1, 1),
		contact(top+1, 0, 1, 1),
		contact(maxInt, 0, 1, 1),
		contact(minInt, 0, 1, 1),
		contact(1, -1, 1, 1),
		contact(1, minInt, 1, 1),
		contact(1, minInt, maxInt, 1),
		contact(1, 0, 0, 1),
		contact(1, 5, 5, 1),
		contact(1, 6, 5, 1),
		contact(1, end, end, 1),
		contact(1, maxInt, minInt, 1),
		contact(1, 0, -1, 1),
		contact(1, 0, minInt, 1),
		contact(1, 0, end+1, 1),
		contact(1, end, end+1, 1),
		contact(1, end-1, end+1, 1),
		contact(1, 0, maxInt, 1),
		contact(1, 0, 1, 0),
		contact(1, 0, 1, -1),
		contact(1, 0, 1, minInt),
		contact(1, 0, 1, fast+1),
		contact(1, 0, 1, maxInt),
		{},
	}
}

func TestP91ContactsThatMayBe(t *testing.T) {
	for _, c := range mays() {
		e := plan.Right([]api.Contact{c})
		fatalIf(t, e != ok, "%v: %d", c, e)
		e = plan.Right(with(example(), c))
		fatalIf(t, e != ok, "%v besides: %d", c, e)
	}
	for _, l := range [][]api.Contact{nil, {}, example(), mays()[1:4]} {
		fatalIf(t, plan.Right(l) != ok, "%v: %d", l, plan.Right(l))
	}
}

func TestP91ContactsThatMayNotBe(t *testing.T) {
	for _, c := range mayNots() {
		e := plan.Right([]api.Contact{c})
		fatalIf(t, e != wrong, "%v: %d", c, e)
		for place := range 4 {
			l := slices.Insert(example(), place, c)
			fatalIf(t, plan.Right(l) != wrong, "%v at the place %d: %d", c, place, plan.Right(l))
		}
	}
}

// crowd is so many contacts, as many of one peer as can be.
func crowd(many int) (l []api.Contact) {
	for i := range many {
		l = append(l, contact(1+i%3, i, 2*many, 1+i%10))
	}
	return l
}

func TestP91TooMany(t *testing.T) {
	for many, want := range map[int]api.Errno{0: ok, 1: ok, limit - 1: ok, limit: ok, limit + 1: long, limit + 2: long, 5000: long} {
		fatalIf(t, plan.Right(crowd(many)) != want, "%d contacts: %d", many, plan.Right(crowd(many)))
	}
	for _, c := range mayNots() { // the length alone is asked first
		l := slices.Insert(crowd(limit), 0, c)
		fatalIf(t, plan.Right(l) != long, "too many, and %v: %d", c, plan.Right(l))
		e := plan.Right(with(crowd(limit-1), c))
		fatalIf(t, e != wrong, "MaxContacts, and the last of them %v: %d", c, e)
	}
	all := slices.Repeat([]api.Contact{contact(5, 3, 9, 10)}, limit)
	fatalIf(t, plan.Right(all) != ok, "MaxContacts that are the same: %d", plan.Right(all))
	all[limit-1].Rate++
	fatalIf(t, plan.Right(all) != wrong, "MaxContacts with one segment too many: %d", plan.Right(all))
	all[limit-1].Rate = 10
	fatalIf(t, plan.Right(with(all, all[0])) != long, "one more, with too much besides: %d", plan.Right(with(all, all[0])))
}

func TestP91RatesThatAddUp(t *testing.T) {
	for _, x := range []struct {
		name string
		l    []api.Contact
		want api.Errno
	}{
		{"two at the same ticks", []api.Contact{contact(1, 5, 9, 400), contact(1, 5, 9, 600)}, ok},
		{"one too many", []api.Contact{contact(1, 5, 9, 400), contact(1, 5, 9, 601)}, wrong},
		{"far too many", []api.Contact{contact(1, 5, 9, fast), contact(1, 5, 9, fast)}, wrong},
		{"of two peers", []api.Contact{contact(1, 5, 9, fast), contact(2, 5, 9, fast)}, ok},
		{"at one tick", []api.Contact{contact(1, 5, 9, 400), contact(1, 8, 12, 600)}, ok},
		{"one too many at one tick", []api.Contact{contact(1, 5, 9, 400), contact(1, 8, 12, 601)}, wrong},
		{"one too many at one tick, the other way round", []api.Contact{contact(1, 8, 12, 601), contact(1, 5, 9, 400)}, wrong},
		{"touching", []api.Contact{contact(1, 5, 9, fast), contact(1, 9, 12, fast)}, ok},
		{"touching, the other way round", []api.Contact{contact(1, 9, 12, fast), contact(1, 5, 9, fast)}, ok},
		{"apart", []api.Contact{contact(1, 5, 9, fast), contact(1, 20, 22, fast)}, ok},
		{"within", []api.Contact{contact(1, 0, end, 1), contact(1, 70, 71, fast)}, wrong},
		{"just within", []api.Contact{contact(1, 0, end, 1), contact(1, 70, 71, fast-1)}, ok},
		{"at the first tick", []api.Contact{contact(1, 0, end, 1), contact(1, 0, 1, fast)}, wrong},
		{"at the last tick", []api.Contact{contact(1, 0, end, 1), contact(1, end-1, end, fast)}, wrong},
		{"up to the last tick", []api.Contact{contact(1, 0, end-1, 1), contact(1, end-1, end, fast)}, ok},
		{"over all ticks", []api.Contact{contact(1, 0, end, fast-1), contact(1, 0, end, 1)}, ok},
		{"one too many over all ticks", []api.Contact{contact(1, 0, end, fast-1), contact(1, 0, end, 1), contact(1, 0, end, 1)}, wrong},
		{"three of which two never meet", []api.Contact{contact(1, 0, 10, 500), contact(1, 10, 20, 500), contact(1, 5, 15, 500)}, ok},
		{"three that meet at one tick", []api.Contact{contact(1, 0, 11, 500), contact(1, 10, 20, 500), contact(1, 5, 15, 1)}, wrong},
		{"three of which one meets each of the others", []api.Contact{contact(1, 0, 9, 500), contact(1, 10, 20, 501), contact(1, 5, 15, 500)}, wrong},
		{"of the last peer", []api.Contact{contact(top, 0, 9, fast), contact(1, 0, 9, fast), contact(top, 8, 9, 1)}, wrong},
		{"of two peers that are alike in their low bits", []api.Contact{contact(1, 0, 9, fast), contact(1<<32+1, 0, 9, fast), contact(1<<61+1, 0, 9, fast)}, ok},
	} {
		fatalIf(t, plan.Right(x.l) != x.want, "%s: %d", x.name, plan.Right(x.l))
		slices.Reverse(x.l)
		fatalIf(t, plan.Right(x.l) != x.want, "%s, from behind: %d", x.name, plan.Right(x.l))
	}
}

// Each list of at most three contacts whose rates are great: the sum is held against a count tick by tick.
func TestP91EveryShortListOfGreatRates(t *testing.T) {
	refused := 0
	right := func(l []api.Contact) {
		if isRight(l) == wrong {
			refused++
		}
		fatalIf(t, plan.Right(l) != isRight(l), "%v: %d", l, plan.Right(l))
	}
	lists(contacts([]int{1, 2}, 0, 3, []int{1, 400, 600, fast}), 2, right)
	lists(contacts([]int{1, 2}, end-2, end, []int{1, 400, 600}), 3, right)
	fatalIf(t, refused < 1000, "only %d lists are refused", refused)
}

// contacts are all of some peers and rates within some ticks.
func contacts(peers []int, from, to int, rates []int) (l []api.Contact) {
	for _, peer := range peers {
		for first := from; first < to; first++ {
			for behind := first + 1; behind <= to; behind++ {
				for _, rate := range rates {
					l = append(l, contact(peer, first, behind, rate))
				}
			}
		}
	}
	return l
}

// lists goes through all rows of at most so many contacts, in every order, the same one more than once, too.
func lists(all []api.Contact, most int, visit func(l []api.Contact)) {
	var grow func(l []api.Contact)
	grow = func(l []api.Contact) {
		visit(l)
		if len(l) == most {
			return
		}
		for _, c := range all {
			grow(with(l, c))
		}
	}
	grow(nil)
}
