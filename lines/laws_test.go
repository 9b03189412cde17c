package lines_test

import (
	"math/rand/v2"
	"slices"
	"testing"

	"lantern/api"
	"lantern/lines"
)

// chance is a call by chance, of three peers and three sessions; what is put is marked.
func chance(r *rand.Rand, mark int) call {
	peer, s := 1+r.IntN(3), session(1+r.IntN(2), 1+r.IntN(2))
	switch n := r.IntN(40); {
	case n < 26:
		return puts(peer, some(types()[r.IntN(12)], s, mark))
	case n < 37:
		return takes(peer, r.IntN(5))
	default:
		return drops(s, r.IntN(2) == 0)
	}
}

// chances goes through long rows of calls by chance, with several limits.
func chances(times, length int, visit func(r *rand.Rand, limit int, l []call)) {
	for i := range times {
		r := rand.New(rand.NewPCG(116, uint64(i)))
		var l []call
		for mark := range length {
			l = append(l, chance(r, mark))
		}
		visit(r, []int{-1, 1, 2, 5, 50}[i%5], l)
	}
}

func TestP116LongRows(t *testing.T) {
	chances(100, 500, func(_ *rand.Rand, limit int, l []call) { plays(t, limit, l, 1, 2, 3) })
}

// Each that was put is taken once, or dropped, or waits still; of one kind and peer the earlier is not taken later.
func TestP116JustOnce(t *testing.T) {
	chances(60, 400, func(_ *rand.Rand, limit int, l []call) {
		x := lines.New(limit)
		where := map[int]int{}   // the peer, by the mark of what waits, or was dropped
		last := map[[2]int]int{} // the mark that was taken last, by the peer and the kind
		count := func() (n int) {
			for p := range 5 {
				n += x.Count(p)
			}
			return n
		}
		gone := func(peer int, out []api.Segment) {
			for _, s := range out {
				m, key := markOf(s), [2]int{peer, slices.IndexFunc(turns(), func(turn string) bool { return is(s, turn) })}
				fatalIf(t, where[m] != peer, "%d came to %d, not to %d", m, peer, where[m])
				fatalIf(t, m < last[key], "%d came behind %d", m, last[key])
				last[key] = m
				delete(where, m)
			}
		}
		dropped := 0
		for i, c := range l {
			before, grows := count(), 0
			switch c.do {
			case put:
				if x.Put(c.peer, c.s) == ok {
					where[i], grows = c.peer, 1
				}
			case take:
				out := x.Take(c.peer, c.most)
				gone(c.peer, out)
				grows = -len(out)
			case drop:
				grows = -x.Drop(c.session, c.all)
				dropped -= grows
			}
			fatalIf(t, count() != before+grows, "behind %v: %d wait, not %d", c, count(), before+grows)
		}
		for p := 1; p <= 3; p++ {
			gone(p, x.Take(p, maxInt))
		}
		fatalIf(t, len(where) != dropped, "%d never came, %d were dropped", len(where), dropped)
	})
}

// Each Take in two, by chance: what comes, and what stays, is the same.
func TestP117TakesInTwo(t *testing.T) {
	chances(60, 400, func(r *rand.Rand, limit int, l []call) {
		x, y := lines.New(limit), lines.New(limit)
		for _, c := range l {
			switch c.do {
			case put:
				e, want := x.Put(c.peer, c.s), y.Put(c.peer, c.s)
				fatalIf(t, e != want, "%v: %d, not %d", c, e, want)
			case take:
				a := r.IntN(c.most + 1)
				two, single := append(x.Take(c.peer, a), x.Take(c.peer, c.most-a)...), y.Take(c.peer, c.most)
				fatalIf(t, !sameAll(two, single), "%v: %v, not %v", c, marks(two), marks(single))
			case drop:
				n, want := x.Drop(c.session, c.all), y.Drop(c.session, c.all)
				fatalIf(t, n != want, "%v: %d, not %d", c, n, want)
			}
		}
	})
}

// An answer is put at any time: it comes ahead of all controls and data.
func TestP117AnAnswerAtAnyTime(t *testing.T) {
	chances(60, 120, func(r *rand.Rand, _ int, l []call) {
		b := newBoth(1000, 1, 2, 3)
		for _, c := range l {
			b.does(t, c)
		}
		ahead := b.list.count(2, "a")
		b.does(t, puts(2, some(answerTypes()[r.IntN(3)], session(1, 1), 9000)))
		_, out := b.does(t, takes(2, ahead+1))
		fatalIf(t, markOf(out[ahead]) != 9000, "%v", marks(out))
	})
}

// What waits for one peer hangs on what is called of it, and on Drop: the calls of the others are nothing to it.
func TestP115WithoutTheOthers(t *testing.T) {
	chances(40, 300, func(_ *rand.Rand, limit int, l []call) {
		x, y := lines.New(limit), lines.New(limit)
		for _, c := range l {
			for _, each := range []*lines.Lines{x, y} {
				switch {
				case c.do == drop:
					each.Drop(c.session, c.all)
				case each == y && c.peer != 2:
				case c.do == put:
					each.Put(c.peer, c.s)
				case c.peer != 2:
					each.Take(c.peer, c.most)
				}
			}
			if c.do == take && c.peer == 2 {
				out, want := x.Take(2, c.most), y.Take(2, c.most)
				fatalIf(t, !sameAll(out, want), "%v: %v, not %v", c, marks(out), marks(want))
			}
			counts(t, x, 2, y.Count(2))
		}
	})
}
