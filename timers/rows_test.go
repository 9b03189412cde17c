package timers_test

import (
	"testing"

	"lantern/api"
)

// rows goes through all rows of so many calls.
func rows(alphabet []call, length int, visit func(l []call)) {
	l := make([]call, length)
	var fill func(place int)
	fill = func(place int) {
		if place == length {
			visit(l)
			return
		}
		for _, c := range alphabet {
			l[place] = c
			fill(place + 1)
		}
	}
	fill(0)
}

// Every row of one timer's calls: the tick at which it runs out, if it does, is the one that is counted.
func TestP108EveryRowOfOneTimer(t *testing.T) {
	t.Parallel()
	a := keyA()
	alphabet := []call{{start, a, 1}, {start, a, 2}, {start, a, 3}, {stop, a, 0}, {hold, a, 0}, {goOn, a, 0}, {do: tick}}
	visited := 0
	for length := range 8 {
		rows(alphabet, length, func(l []call) {
			visited++
			plays(t, l, []api.Key{a})
		})
	}
	fatalIf(t, visited != 960800, "%d rows", visited)
}

// Every row of calls of four timers, of which two have a peer, and two others a session, in common.
func TestP108EveryRowOfFourTimers(t *testing.T) {
	t.Parallel()
	a, b := key(1, 1, 1, 1, 5), key(1, 2, 1, 3, 12)
	c, d := key(2, 1, 1, 1, 5), key(2, 2, 2, 4, 0)
	alphabet := []call{
		{start, a, 1}, {start, a, 2}, {start, b, 1}, {start, b, 2}, {start, c, 1}, {start, d, 2}, {start, a, 0},
		{stop, a, 0}, {drop, a, 0}, {drop, b, 0}, {hold, a, 0}, {goOn, a, 0}, {hold, c, 0}, {do: tick},
	}
	rows(alphabet, 5, func(l []call) { plays(t, l, []api.Key{a, b, c, d}) })
}

// Every row of calls behind a beginning at which all run, one peer held: what was stops, begins anew, and runs out among others.
func TestP108EveryRowBehindABeginning(t *testing.T) {
	t.Parallel()
	a, b, c := keyA(), keyB(), keyC()
	first := []call{{start, c, 2}, {start, b, 3}, {hold, c, 0}, {start, a, 2}}
	alphabet := []call{
		{start, a, 3}, {start, c, 1}, {stop, b, 0}, {stop, c, 0}, {drop, a, 0}, {drop, c, 0},
		{hold, a, 0}, {goOn, a, 0}, {goOn, c, 0}, {do: tick},
	}
	rows(alphabet, 5, func(l []call) {
		all := append(first[:len(first):len(first)], l...)
		plays(t, append(all, call{do: tick}, call{do: tick}), []api.Key{a, b, c})
	})
}

// Two tables side by side, each called as the other one is not: what is done with the one is nothing to the other.
func TestP107EveryTwoRowsSideBySide(t *testing.T) {
	t.Parallel()
	a, c := keyA(), keyC()
	keys := []api.Key{a, c}
	alphabet := []call{{start, a, 2}, {start, c, 1}, {drop, a, 0}, {stop, c, 0}, {hold, a, 0}, {goOn, a, 0}, {do: tick}, {do: none}}
	rows(alphabet, 6, func(l []call) {
		one, other := []call{{start, a, 1}}, []call{{start, c, 2}}
		x, y := plays(t, one, keys), plays(t, other, keys)
		for i := 0; i < len(l); i += 2 {
			does(t, x, one, l[i], keys)
			does(t, y, other, l[i+1], keys)
			one, other = append(one, l[i]), append(other, l[i+1])
		}
		stands(t, x, one, keys)
		stands(t, y, other, keys)
	})
}
