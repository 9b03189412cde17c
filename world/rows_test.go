package world_test

import (
	"testing"

	"lantern/api"
)

// rows goes through all rows of so many events. (Each shorter one is the beginning of some of them.)
func rows(alphabet []api.Event, length int, visit func(l []api.Event)) {
	l := make([]api.Event, length)
	var fill func(place int)
	fill = func(place int) {
		if place == length {
			visit(l)
			return
		}
		for _, x := range alphabet {
			l[place] = x
			fill(place + 1)
		}
	}
	fill(0)
}

// quick is a setup in which all runs out soon.
func quick() setup {
	return usual().with(func(c *api.Config) {
		c.Rules = api.Rules{Retry: 1, Cycles: 1}
		c.Sessions, c.Hold, c.Idle, c.Queue, c.Compact = 2, 9, 3, 4, 60
		c.Peers[0].Timeout, c.Contacts[0].Rate = 2, 2
	})
}

// Every short row of events, and time behind it in which all comes to its end.
func TestP152EveryRow(t *testing.T) {
	t.Parallel()
	alphabet := []api.Event{says(0, "ab"), submits(1, 7, 1, []byte("xy")), cancels(0, 0, 1), cancels(1, 0, 1), ticks(1), ticks(2), crash(0, 0, 0, 1), crash(1, 1, 20, 0), boots(0), boots(1), injects(1, red(1, 1, "ab")...), lose(), copies(1, 2)}
	rows(alphabet, 4, func(l []api.Event) {
		quick().run(t, append(l[:4:4], ticks(9))...)
	})
}

// Every row about one block and the power of who receives it.
func TestP152EveryRowOfPower(t *testing.T) {
	t.Parallel()
	alphabet := []api.Event{ticks(1), ticks(3), crash(1, 0, 100, 1), crash(1, 1, 0, 1), crash(1, 2, 15, 0), boots(1), boots(0)}
	rows(alphabet, 5, func(l []api.Event) {
		quick().run(t, append([]api.Event{says(0, "ab")}, append(l[:5:5], ticks(6), boots(1))...)...)
	})
}
