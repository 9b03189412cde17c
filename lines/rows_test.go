package lines_test

import "testing"

// rows goes through all rows of so many calls; what is put is marked by its place.
func rows(alphabet []call, length int, visit func(l []call)) {
	l := make([]call, length)
	var fill func(place int)
	fill = func(place int) {
		if place == length {
			visit(l)
			return
		}
		for _, c := range alphabet {
			if c.do == put {
				c.s = some(c.s.Type, c.s.Session, place)
			}
			l[place] = c
			fill(place + 1)
		}
	}
	fill(0)
}

// Every row of calls of one peer and one session, with segments of each kind.
func TestP116EveryRowOfOnePeer(t *testing.T) {
	t.Parallel()
	s := session(1, 5)
	alphabet := []call{
		puts(1, some(9, s, 0)), puts(1, some(8, s, 0)), puts(1, some(0, s, 0)), puts(1, some(4, s, 0)),
		takes(1, 1), takes(1, 2), drops(s, false), drops(s, true),
	}
	for limit := range 3 {
		for length := range 6 {
			rows(alphabet, length, func(l []call) { plays(t, limit, l, 1) })
		}
	}
}

// plays calls lines of a limit, one by one, and wants what the list says, and at the end all that waits.
func plays(t *testing.T, limit int, l []call, peers ...int) {
	t.Helper()
	b := newBoth(limit, peers...)
	for _, c := range l {
		b.does(t, c)
	}
	b.ends(t)
}

// Every row of calls of two peers and two sessions.
func TestP116EveryRowOfTwoPeers(t *testing.T) {
	t.Parallel()
	s, o := session(1, 5), session(2, 5)
	alphabet := []call{
		puts(1, some(13, s, 0)), puts(2, some(15, o, 0)), puts(1, some(12, o, 0)), puts(2, some(14, s, 0)),
		puts(1, some(3, s, 0)), puts(2, some(2, s, 0)), puts(2, some(7, o, 0)), puts(0, some(1, s, 0)),
		takes(1, 1), takes(2, 1), takes(2, 9), drops(s, false), drops(s, true), drops(o, true),
	}
	rows(alphabet, 4, func(l []call) { plays(t, 1, l, 1, 2) })
}

// Every row of calls behind a beginning at which both peers have some of each kind.
func TestP116EveryRowBehindABeginning(t *testing.T) {
	t.Parallel()
	s, o := session(1, 5), session(1, 6)
	var first []call
	for i, kind := range []int{0, 8, 9, 4, 1, 12, 7, 13, 3, 14} {
		first = append(first, puts(1+i%2, some(kind, s, 50+2*i)), puts(1+i%2, some(kind, o, 51+2*i)))
	}
	alphabet := []call{
		puts(1, some(15, s, 0)), puts(2, some(8, o, 0)), puts(1, some(2, s, 0)),
		takes(1, 1), takes(1, 4), takes(2, 3), takes(2, 0), drops(s, false), drops(o, false), drops(s, true), drops(o, true),
	}
	rows(alphabet, 4, func(l []call) { plays(t, 2, append(first[:len(first):len(first)], l...), 1, 2) })
}

// Two lines side by side, each called as the other one is not: what is done with the one is nothing to the other.
func TestP115EveryTwoRowsSideBySide(t *testing.T) {
	t.Parallel()
	s := session(1, 5)
	alphabet := []call{puts(1, some(9, s, 0)), puts(1, some(0, s, 0)), puts(2, some(8, s, 0)), takes(1, 1), drops(s, false), drops(s, true)}
	rows(alphabet, 6, func(l []call) {
		x, y := newBoth(1, 1, 2), newBoth(2, 1, 2)
		for i := 0; i < len(l); i += 2 {
			x.does(t, l[i])
			y.does(t, l[i+1])
		}
		x.ends(t)
		y.ends(t)
	})
}
