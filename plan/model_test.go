package plan_test

import (
	"cmp"
	"math"
	"slices"
	"testing"

	"lantern/api"
	"lantern/plan"
)

// What the chapter says, once more and in other ways than the package: of short plans tick by tick, of long ones contact by contact.

const (
	top    = 1<<62 - 1 // MaxNum
	end    = 1 << 40   // MaxTick
	fast   = 1000      // MaxRate
	limit  = 100       // MaxContacts
	maxInt = math.MaxInt
	minInt = math.MinInt
	ok     = api.OK
	wrong  = api.ErrPlanContact
	long   = api.ErrLong
)

func contact(peer, from, to, rate int) api.Contact {
	return api.Contact{Peer: peer, From: from, To: to, Rate: rate}
}

// example is the chapter's plan.
func example() []api.Contact {
	return []api.Contact{contact(7, 10, 20, 2), contact(7, 15, 30, 3), contact(8, 0, end, 1)}
}

// with is a list with more behind it, in memory of its own.
func with(l []api.Contact, more ...api.Contact) []api.Contact { return slices.Concat(l, more) }

func fatalIf(t *testing.T, bad bool, words string, what ...any) {
	t.Helper()
	if bad {
		t.Fatalf(words, what...)
	}
}

// asCounted is a tick that is asked, as it counts.
func asCounted(tick int) int {
	switch {
	case tick < 0:
		return 0
	case tick > end:
		return end
	}
	return tick
}

// tally is the rate of a peer at the ticks from first on; at all others it is 0.
type tally struct {
	first int
	rates []int
}

// newTally counts tick by tick: of plans whose contacts lie close together.
func newTally(l []api.Contact, peer int) tally {
	if len(l) == 0 {
		return tally{}
	}
	first := slices.MinFunc(l, func(a, b api.Contact) int { return cmp.Compare(a.From, b.From) }).From
	behind := slices.MaxFunc(l, func(a, b api.Contact) int { return cmp.Compare(a.To, b.To) }).To
	y := tally{first: first, rates: make([]int, behind-first)}
	for _, c := range l {
		for tick := c.From; tick < c.To; tick++ {
			if c.Peer == peer {
				y.rates[tick-first] += c.Rate
			}
		}
	}
	return y
}

func (y tally) behind() int { return y.first + len(y.rates) }

func (y tally) rate(tick int) int {
	if tick = asCounted(tick); tick < y.first || tick >= y.behind() {
		return 0
	}
	return y.rates[tick-y.first]
}

func (y tally) next(tick int) int {
	tick = asCounted(tick)
	for n := max(tick+1, y.first); n <= y.behind(); n++ {
		if y.rate(n) != y.rate(tick) {
			return n
		}
	}
	return -1
}

func (y tally) total(from, to int) (sum int) {
	for n := max(asCounted(from), y.first); n < min(asCounted(to), y.behind()); n++ {
		sum += y.rate(n)
	}
	return sum
}

func (y tally) when(from, many int) int {
	if many < 1 {
		return asCounted(from)
	}
	for n := max(asCounted(from), y.first); n < y.behind(); n++ {
		if many -= y.rate(n); many < 1 {
			return n
		}
	}
	return -1
}

// isRight is what Right is to answer, of contacts that lie close together.
func isRight(l []api.Contact) api.Errno {
	if len(l) > limit {
		return long
	}
	for _, c := range l {
		if c.Peer < 1 || c.Peer > top || c.From < 0 || c.From >= c.To || c.To > end || c.Rate < 1 || c.Rate > fast {
			return wrong
		}
	}
	for _, c := range l {
		if slices.ContainsFunc(newTally(l, c.Peer).rates, func(n int) bool { return n > fast }) {
			return wrong
		}
	}
	return ok
}

// share is how many of a span of ticks a contact has, times its rate.
func share(c api.Contact, from, to int) int {
	return max(0, min(c.To, to)-max(c.From, from)) * c.Rate
}

// sumOf is Total contact by contact: of plans of any length.
func sumOf(l []api.Contact, peer, from, to int) (sum int) {
	for _, c := range l {
		if c.Peer == peer {
			sum += share(c, asCounted(from), asCounted(to))
		}
	}
	return sum
}

// firstWith is When by halves: of plans of any length.
func firstWith(l []api.Contact, peer, from, many int) int {
	from = asCounted(from)
	if many < 1 {
		return from
	}
	if sumOf(l, peer, from, end) < many {
		return -1
	}
	low, high := from, end
	for low < high {
		middle := (low + high) / 2
		if sumOf(l, peer, from, middle+1) >= many {
			high = middle
		} else {
			low = middle + 1
		}
	}
	return low
}

// turnOf is Next by the ends of all contacts: of plans of any length.
func turnOf(l []api.Contact, peer, tick int) int {
	tick = asCounted(tick)
	best := -1
	for _, c := range l {
		for _, n := range []int{c.From, c.To} {
			if n > tick && (best < 0 || n < best) && sumOf(l, peer, n, n+1) != sumOf(l, peer, tick, tick+1) {
				best = n
			}
		}
	}
	return best
}

// answersNothing wants the answers of what is no plan.
func answersNothing(t *testing.T, l []api.Contact, peer, tick, other, many int) {
	t.Helper()
	rate, next := plan.Rate(l, peer, tick), plan.Next(l, peer, tick)
	total, when := plan.Total(l, peer, tick, other), plan.When(l, peer, tick, many)
	fatalIf(t, rate != 0 || next != -1 || total != 0 || when != -1,
		"%v is no plan: of %d at %d: Rate %d, Next %d, Total to %d %d, When of %d %d", l, peer, tick, rate, next, other, total, many, when)
}

// agrees wants the answers of a plan, of any length.
func agrees(t *testing.T, l []api.Contact, peer, tick, other, many int) {
	t.Helper()
	rate, next := plan.Rate(l, peer, tick), plan.Next(l, peer, tick)
	total, when := plan.Total(l, peer, tick, other), plan.When(l, peer, tick, many)
	at := asCounted(tick)
	fatalIf(t, rate != sumOf(l, peer, at, at+1), "%v: Rate of %d at %d: %d", l, peer, tick, rate)
	fatalIf(t, next != turnOf(l, peer, tick), "%v: Next of %d at %d: %d, not %d", l, peer, tick, next, turnOf(l, peer, tick))
	fatalIf(t, total != sumOf(l, peer, tick, other), "%v: Total of %d from %d to %d: %d, not %d", l, peer, tick, other, total, sumOf(l, peer, tick, other))
	fatalIf(t, when != firstWith(l, peer, tick, many), "%v: When of %d from %d, %d: %d, not %d", l, peer, tick, many, when, firstWith(l, peer, tick, many))
}
