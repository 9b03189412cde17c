package timers_test

import (
	"math/rand/v2"
	"slices"
	"testing"

	"lantern/api"
	"lantern/timers"
)

// few are keys of three peers and four sessions, in the order of keys.
func few() (l []api.Key) {
	for peer := 1; peer <= 3; peer++ {
		for session := range 4 {
			for kind := 1; kind <= 4; kind += 3 {
				l = append(l, key(peer, 1+session/2, 1+session%2, kind, session))
			}
		}
	}
	return l
}

// chance is a call by chance.
func chance(r *rand.Rand, keys []api.Key, most int) call {
	c := call{key: keys[r.IntN(len(keys))]}
	switch n := r.IntN(40); {
	case n < 14:
		c.do, c.ticks = start, 1+r.IntN(most)
	case n < 17:
		c.do = stop
	case n < 18:
		c.do = drop
	case n < 21:
		c.do = hold
	case n < 25:
		c.do = goOn
	default:
		c = call{do: tick}
	}
	return c
}

// chances goes through long rows of calls by chance.
func chances(times, length int, visit func(r *rand.Rand, l []call, keys []api.Key)) {
	keys := few()
	for i := range times {
		r := rand.New(rand.NewPCG(108, uint64(i)))
		var l []call
		for range length {
			l = append(l, chance(r, keys, []int{2, 5, 12, 60}[i%4]))
		}
		visit(r, l, keys)
	}
}

func TestP108LongRows(t *testing.T) {
	chances(80, 200, func(r *rand.Rand, l []call, keys []api.Key) {
		x := timers.New()
		for i, c := range l {
			does(t, x, l[:i], c, keys)
			if i%16 == 0 {
				stands(t, x, l[:i+1], keys)
			}
		}
		stands(t, x, l, keys)
	})
}

// told is what a row of calls tells of one key: at which of them it ran out, and what is left of it behind each.
func told(l []call, k api.Key) (out []int) {
	x := timers.New()
	for _, c := range l {
		ran := 0
		switch c.do {
		case start:
			x.Start(c.key, c.ticks)
		case stop:
			x.Stop(c.key)
		case drop:
			x.Drop(c.key.Session)
		case hold:
			x.Hold(c.key.Peer)
		case goOn:
			x.Go(c.key.Peer)
		case tick:
			for _, o := range x.Tick() {
				if o == k {
					ran++
				}
			}
		}
		n, _ := x.Left(k)
		out = append(out, ran, n)
	}
	return out
}

// What becomes of one timer is the same without the others.
func TestP108WithoutTheOthers(t *testing.T) {
	chances(60, 300, func(r *rand.Rand, l []call, keys []api.Key) {
		for _, k := range keys {
			alone := slices.Clone(l)
			for i, c := range alone {
				if (c.do == start || c.do == stop) && c.key != k {
					alone[i] = call{do: none}
				}
			}
			fatalIf(t, !slices.Equal(told(l, k), told(alone, k)), "%v: it hangs on the others", k)
		}
	})
}

// The same calls tell the same on each table.
func TestP107AgainTheSame(t *testing.T) {
	chances(20, 300, func(r *rand.Rand, l []call, keys []api.Key) {
		x, y := timers.New(), timers.New()
		for i, c := range l {
			does(t, x, l[:i], c, keys)
			does(t, y, l[:i], c, keys)
		}
	})
}

// endsOf are the ticks at which timers of some numbers of ticks run out, all started at the same time, while their peer is held now and then.
func endsOf(t *testing.T, r *rand.Rand, many int) (numbers, ends []int) {
	x := timers.New()
	for i := range many {
		numbers = append(numbers, 1+r.IntN(30))
		ends = append(ends, 0)
		starts(t, x, key(7, 1, 1+i%3, 1+i%4, i), numbers[i])
	}
	for now := 1; x.Count() > 0; now++ {
		fatalIf(t, now > 1000, "%d did not run out", x.Count())
		if r.IntN(2) == 0 {
			x.Hold(7)
		} else {
			x.Go(7)
		}
		out := x.Tick()
		for _, k := range out {
			fatalIf(t, ends[k.Serial] != 0, "%v ran out twice", k)
			ends[k.Serial] = now
		}
	}
	return numbers, ends
}

func TestP109FewerTicksNeverBehind(t *testing.T) {
	for i := range 100 {
		r := rand.New(rand.NewPCG(109, uint64(i)))
		numbers, ends := endsOf(t, r, 25)
		for a := range numbers {
			for b := range numbers {
				fewer, same := numbers[a] < numbers[b], numbers[a] == numbers[b]
				fatalIf(t, fewer && ends[a] >= ends[b], "%d ticks ran out at %d, %d at %d", numbers[a], ends[a], numbers[b], ends[b])
				fatalIf(t, same && ends[a] != ends[b], "%d ticks ran out at %d, and at %d", numbers[a], ends[a], ends[b])
			}
		}
	}
}

// No key twice, however often it was started.
func TestP109NoKeyTwice(t *testing.T) {
	keys := few()
	for i := range 200 {
		r := rand.New(rand.NewPCG(1090, uint64(i)))
		x, last := timers.New(), map[api.Key]int{}
		for range 60 {
			k, n := keys[r.IntN(len(keys))], 1+r.IntN(3)
			starts(t, x, k, n)
			last[k] = n
		}
		counts(t, x, len(last))
		for now := 1; now <= 3; now++ {
			for _, k := range x.Tick() {
				fatalIf(t, last[k] != now, "%v ran out at %d, not just at %d", k, now, last[k])
				delete(last, k)
			}
		}
		fatalIf(t, len(last) != 0, "%v did not run out", last)
	}
}
