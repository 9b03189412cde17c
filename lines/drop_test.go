package lines_test

import (
	"testing"

	"lantern/api"
	"lantern/lines"
)

// crowd puts one segment of each type of four sessions, of which each two have a number in common, for three peers.
func crowd(t *testing.T, b both) {
	t.Helper()
	for _, p := range []int{2, 7, top} {
		for i, s := range []api.Session{session(1, 5), session(1, 6), session(2, 5), session(5, 1)} {
			for j, kind := range types() {
				told, _ := b.does(t, puts(p, some(kind, s, p%100*100+i*12+j)))
				fatalIf(t, told != 0, "Put: %d", told)
			}
		}
	}
}

// Red data alone, or all but answers; of all peers; of that session alone; the others stay in their order.
func TestP114EachSession(t *testing.T) {
	for _, s := range []api.Session{session(1, 5), session(1, 6), session(2, 5), session(5, 1)} {
		for _, all := range []bool{false, true} {
			want := 3 * 4 // red
			if all {
				want = 3 * 9 // with green data and controls
			}
			b := newBoth(99, 2, 7, top)
			crowd(t, b)
			told, _ := b.does(t, drops(s, all))
			fatalIf(t, told != want, "Drop(%v, %t): %d, not %d", s, all, told, want)
			again, _ := b.does(t, drops(s, all))
			fatalIf(t, again != 0, "Drop(%v, %t) once more: %d", s, all, again)
			b.ends(t)
		}
	}
}

// Without all, then with all: what the first left, but answers.
func TestP114WithoutAndThenWithAll(t *testing.T) {
	b := newBoth(99, 2, 7, top)
	crowd(t, b)
	for _, x := range []struct {
		all  bool
		want int
	}{{false, 12}, {true, 15}, {false, 0}, {true, 0}} {
		told, _ := b.does(t, drops(session(1, 5), x.all))
		fatalIf(t, told != x.want, "Drop with all %t: %d, not %d", x.all, told, x.want)
	}
	b.ends(t)
}

// A session of which nothing waits, or that may be none, drops nothing.
func TestP114NoSuchSession(t *testing.T) {
	b := newBoth(99, 2, 7, top)
	crowd(t, b)
	for _, s := range []api.Session{{}, session(1, 4), session(2, 6), session(6, 1), session(5, 5), session(-1, -5), session(0, 5), session(1, 0), session(top, top-1), session(minInt, maxInt), session(1<<32+1, 5)} {
		for _, all := range []bool{false, true} {
			told, _ := b.does(t, drops(s, all))
			fatalIf(t, told != 0, "Drop(%v, %t): %d", s, all, told)
		}
	}
	b.ends(t)
}

// Each type alone.
func TestP114EachType(t *testing.T) {
	for _, kind := range types() {
		for _, all := range []bool{false, true} {
			x := lines.New(1)
			answers(t, x, 1, some(kind, session(1, 1), 1), ok)
			want := 0
			if is(api.Segment{Type: kind}, "r") || all && is(api.Segment{Type: kind}, "rgc") {
				want = 1
			}
			n := x.Drop(session(1, 1), all)
			fatalIf(t, n != want, "type %d, all %t: %d, not %d", kind, all, n, want)
			counts(t, x, 1, 1-want)
			if want == 0 {
				comes(t, x, 1, 2, 1)
			}
			comes(t, x, 1, 2)
		}
	}
}

// Whichever of a row belong to the session: the others come in the order in which they were put, and what is put behind them last.
func TestP114TheOrderOfThoseThatStay(t *testing.T) {
	const many = 10
	for pattern := range 1 << many {
		x := lines.New(0)
		var stay []int
		for i := range many {
			s := session(1, 1+pattern>>i&1)
			answers(t, x, 1, some(0, s, i), ok)
			if s.Number == 1 {
				stay = append(stay, i)
			}
		}
		taken := pattern % 3
		x.Take(1, taken)
		for len(stay) > 0 && stay[0] < taken {
			stay = stay[1:]
		}
		n := x.Drop(session(1, 2), pattern%2 == 0)
		fatalIf(t, n != many-taken-len(stay), "%b: %d", pattern, n)
		counts(t, x, 1, len(stay))
		answers(t, x, 1, some(0, session(1, 2), 77), ok)
		comes(t, x, 1, many+1, append(stay, 77)...)
	}
}

// Drop tells of all peers together, of however many there are.
func TestP114ManyPeers(t *testing.T) {
	x := lines.New(1)
	for p := 1; p <= 300; p++ {
		answers(t, x, p, some(0, session(1, 1), p), ok)
		answers(t, x, p, some(9, session(1, 1), p), ok)
		if p%2 == 0 {
			answers(t, x, p, some(0, session(2, 1), p), ok)
		}
	}
	n := x.Drop(session(1, 1), false)
	fatalIf(t, n != 300, "Drop: %d", n)
	n = x.Drop(session(2, 1), true)
	fatalIf(t, n != 150, "Drop: %d", n)
	for p := 1; p <= 300; p++ {
		comes(t, x, p, 9, p)
	}
}

func TestP114Count(t *testing.T) {
	x := lines.New(5)
	for p := 1; p <= 4; p++ {
		for i := range p * 3 {
			counts(t, x, p, i)
			answers(t, x, p, some(types()[i%12], session(1, 1), i), ok)
		}
	}
	for p := 1; p <= 4; p++ {
		counts(t, x, p, p*3)
		counts(t, x, p, p*3)
	}
	for _, p := range []int{minInt, -1, 0, 5, top, top + 1, maxInt} {
		counts(t, x, p, 0)
	}
}
