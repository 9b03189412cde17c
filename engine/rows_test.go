package engine_test

import (
	"testing"

	"lantern/api"
	"lantern/record"
)

// rows goes through all rows of so many calls. (Each shorter one is the beginning of some of them.)
func rows(alphabet []call, length int, visit func(l []call)) {
	l := make([]call, length)
	var fill func(place int)
	fill = func(place int) {
		if place == length {
			visit(l)
			return
		}
		for _, c := range alphabet {
			l[place] = c
			fill(place + 1)
		}
	}
	fill(0)
}

// quick is a configuration in which all runs out soon.
func quick() api.Config {
	return with(usual(), func(c *api.Config) {
		c.Rules = api.Rules{Retry: 1, Cycles: 1}
		c.Sessions, c.Hold, c.Idle, c.Queue, c.Compact = 2, 9, 3, 4, 120
		c.Peers[0].Timeout = 1
		c.Contacts[0].Rate = 2
	})
}

// Every row of calls about one import.
func TestP144EveryRowOfAnImport(t *testing.T) {
	t.Parallel()
	s := session(2, 1)
	alphabet := []call{
		receives(2, red(api.RedPlain, s, 0, 2)), receives(2, red(api.RedCheck, s, 0, 3, 1)), receives(2, red(api.RedEnd, s, 2, 4, 2, epoch+1)), receives(2, red(api.RedLast, s, 2, 4, 3)), receives(2, green(api.GreenLast, s, 4, 6)),
		receives(2, acks(s, epoch+1)), receives(2, calls(12, s, 3)), receives(2, calls(15, s, 0)), cancels(s), ticking(1), ticking(2), reboots(0), reboots(wide),
	}
	rows(alphabet, 4, func(l []call) {
		b := on(1<<12, quick())
		b.boot(t, 0)
		plays(t, b, l)
	})
}

// Every row of calls about one export, of red and of green.
func TestP144EveryRowOfAnExport(t *testing.T) {
	t.Parallel()
	s := session(1, 1)
	for _, red := range []int{0, 3, 5} {
		alphabet := []call{
			receives(2, tells(s, 1, epoch+1, 0, 5, 0, 5)), receives(2, tells(s, 2, epoch+1, 0, 3, 0, 2)), receives(2, tells(s, 3, 0, 0, 3, 0, 2)), receives(2, calls(13, s, 0)), receives(2, calls(14, s, 3)),
			submits(2, 7, 5, red), cancels(s), ticking(1), ticking(2), reboots(0),
		}
		rows(alphabet, 4, func(l []call) {
			b := on(1<<12, quick())
			b.boot(t, 0)
			b.submit(t, 2, 7, wholeRow[:5], red)
			plays(t, b, l)
		})
	}
}

// Every row of calls behind journals that have something in each of its states.
func TestP141EveryRow(t *testing.T) {
	t.Parallel()
	s, o := session(2, 1), session(1, 1)
	alphabet := []call{
		receives(2, red(api.RedLast, s, 0, 5, 1)), receives(2, red(api.RedCheck, s, 3, 5, 2)), receives(2, acks(s, 2*epoch+1)), receives(2, calls(12, s, 3)), receives(2, tells(o, 1, 0, 0, 5, 0, 5)), receives(2, calls(14, o, 1)),
		cancels(s), cancels(o), ticking(1), reboots(0), reboots(13),
	}
	for _, way := range importWays(s) {
		for how := -1; how < 2; how++ {
			stands := append([]api.Record{recBoot(1, 1), recOpen(1, 2, 9, 5)}, way.stands...)
			if how >= 0 {
				stands = append(stands, recEnd(1, how))
			}
			frames, _ := record.Frame(stands)
			rows(alphabet, 2, func(l []call) {
				b := on(len(frames)+1<<12, quick()).puts(t, stands...)
				b.boot(t, 0)
				plays(t, b, l)
			})
		}
	}
}
