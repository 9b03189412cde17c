package timers_test

import (
	"math/rand/v2"
	"slices"
	"testing"

	"lantern/api"
	"lantern/timers"
)

// shuffled is a list in another order, by chance.
func shuffled(r *rand.Rand, l []api.Key) []api.Key {
	l = slices.Clone(l)
	r.Shuffle(len(l), func(a, b int) { l[a], l[b] = l[b], l[a] })
	return l
}

// However they were started: what runs out at one tick comes in the order of keys.
func TestP105TheOrderOfKeys(t *testing.T) {
	keys := allMays()
	for i := range 20 {
		r := rand.New(rand.NewPCG(10, uint64(i)))
		x := timers.New()
		for _, k := range shuffled(r, keys) {
			starts(t, x, k, 1)
		}
		ticks(t, x, keys...)
		counts(t, x, 0)
	}
}

// Two keys that differ in one field come by that, and in more than one by the first of these, whatever the fields behind it say.
func TestP105TheFirstFieldTells(t *testing.T) {
	low, high := []int{1, 1, 1, 1, 0}, []int{2, 2, 2, 2, 1}
	for first := range 5 {
		for others := range 1 << 5 {
			a, b := key(3, 3, 3, 3, 3), key(3, 3, 3, 3, 3)
			a, b = withField(a, first, low[first]), withField(b, first, high[first])
			for field := first + 1; field < 5; field++ {
				if others>>field&1 == 1 {
					a, b = withField(a, field, high[field]), withField(b, field, low[field])
				}
			}
			for _, l := range [][]api.Key{{a, b}, {b, a}} {
				x := timers.New()
				starts(t, x, l[0], 1)
				starts(t, x, l[1], 1)
				ticks(t, x, a, b)
			}
		}
	}
}

// Those that were started at several ticks, and held for some, run out together and in order.
func TestP105FromSeveralTicks(t *testing.T) {
	x := timers.New()
	var want []api.Key
	for peer := 1; peer <= 6; peer++ {
		for serial := range 6 {
			want = append(want, key(peer, 1, 1, 1, serial))
		}
	}
	x.Hold(3) // until the last six ticks
	for n := range 12 {
		for _, k := range want {
			if k.Peer == 3 && n == 5 {
				starts(t, x, k, 6)
			}
			if k.Peer != 3 && k.Serial*2 == n {
				starts(t, x, k, 12-n)
			}
		}
		if n == 6 {
			x.Go(3)
		}
		if n < 11 {
			ticks(t, x)
			counts(t, x, 5*min(6, n/2+1)+6*min(1, n/5))
		}
	}
	ticks(t, x, want...)
}

// Only those with one tick left run out; each of the others has one less.
func TestP105OneTickLess(t *testing.T) {
	x := timers.New()
	for n := 1; n <= 40; n++ {
		for kind := 1; kind <= 4; kind++ {
			starts(t, x, key(1+n%3, 2, 5, kind, n), n)
		}
	}
	for now := 1; now <= 40; now++ {
		var want []api.Key
		for kind := 1; kind <= 4; kind++ {
			want = append(want, key(1+now%3, 2, 5, kind, now))
		}
		ticks(t, x, want...)
		counts(t, x, 4*(40-now))
		for n := 1; n <= 40; n++ {
			has(t, x, key(1+n%3, 2, 5, 2, n), max(0, n-now))
		}
	}
	ticks(t, x)
}

// Asking changes nothing, however often.
func TestP106AskingChangesNothing(t *testing.T) {
	x, a, c := timers.New(), keyA(), keyC()
	starts(t, x, a, 2)
	x.Hold(c.Peer)
	starts(t, x, c, 1)
	for range 5 {
		has(t, x, a, 2)
		has(t, x, c, 1)
		has(t, x, keyB(), 0)
		has(t, x, api.Key{}, 0)
		counts(t, x, 2)
	}
	ticks(t, x)
	ticks(t, x, a)
	has(t, x, a, 0)
	counts(t, x, 1)
}
