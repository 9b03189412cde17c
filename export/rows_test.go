package export_test

import (
	"testing"

	"lantern/api"
)

// rows goes through all rows of so many calls.
func rows(alphabet []call, length int, visit func(l []call)) {
	l := make([]call, length)
	var fill func(place int)
	fill = func(place int) {
		if place == length {
			visit(l)
			return
		}
		for _, c := range alphabet {
			l[place] = c
			fill(place + 1)
		}
	}
	fill(0)
}

// plays calls an export, one by one, and wants what the model says. Of each report that is said again in a row the serial is another one, if it is to be.
func plays(t *testing.T, o opening, l []call) {
	b := begin(t, o)
	for i, c := range l {
		if c.do == doReport && c.r.Serial >= 100 {
			c.r.Serial = 100 + i
		}
		b.does(t, c)
	}
}

func out(s api.Session, kind, offset, check int) call {
	return sends(api.Segment{Session: s, Type: kind, Offset: offset, Check: check})
}

// Every row of calls of an export with one checkpoint at first.
func TestP124EveryRowOfOneCheckpoint(t *testing.T) {
	t.Parallel()
	o := usual(80, 80)
	alphabet := []call{
		out(o.s, api.RedPlain, 0, 0), out(o.s, api.RedLast, 73, 1), out(o.s, api.RedCheck, 9, 2),
		lates(1), lates(2),
		reports(told(100, 1, 80, span(0, 9))), reports(told(100, 1, 80, span(0, 79))), reports(told(100, 2, 9, span(0, 9))),
		reports(told(100, 0, 80, span(9, 80))), reports(told(1, 2, 80, span(20, 30))),
		finishes(),
	}
	for length := range 6 {
		rows(alphabet, length, func(l []call) { plays(t, o, l) })
	}
}

// Every row of calls of an export with two checkpoints at first, and a green part.
func TestP124EveryRowOfTwoCheckpoints(t *testing.T) {
	t.Parallel()
	o := usual(90, 80).every(1).rules(1, 1)
	alphabet := []call{
		out(o.s, api.RedCheck, 0, 1), out(o.s, api.RedEnd, 71, 2), out(o.s, api.GreenLast, 80, 0), out(o.s, api.RedEnd, 75, 3),
		lates(1), lates(2), lates(3),
		reports(told(100, 1, 71, span(0, 70))), reports(told(100, 2, 80, span(0, 75))), reports(told(100, 3, 90, span(0, 71), span(75, 90))),
		reports(told(100, 1, 75, span(0, 75))),
		finishes(),
	}
	rows(alphabet, 5, func(l []call) { plays(t, o, l) })
}

// Every row of calls of an export that was opened again.
func TestP124EveryRowOpenedAgain(t *testing.T) {
	t.Parallel()
	o := usual(90, 80).every(1).from(7).reopened()
	alphabet := []call{
		out(o.s, api.RedEnd, 71, 8), out(o.s, api.RedCheck, 0, 9), out(o.s, api.GreenLast, 80, 0), out(o.s, api.RedEnd, 71, 9),
		lates(8), lates(9),
		reports(told(100, 8, 80, span(71, 80))), reports(told(100, 9, 80, span(0, 71))), reports(told(100, 9, 40, span(0, 40))),
		reports(told(5, 8, 80, span(0, 71))),
	}
	rows(alphabet, 5, func(l []call) { plays(t, o, l) })
}
