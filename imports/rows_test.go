package imports_test

import (
	"testing"

	"lantern/api"
)

// rows goes through all rows of so many calls. (Each shorter one is the beginning of some of them.)
func rows(alphabet []call, length int, visit func(l []call)) {
	l := make([]call, length)
	var fill func(place int)
	fill = func(place int) {
		if place == length {
			visit(l)
			return
		}
		for _, c := range alphabet {
			l[place] = c
			fill(place + 1)
		}
	}
	fill(0)
}

// plays calls an import, one by one, and wants what the model says.
func plays(t *testing.T, b *both, l []call) {
	for _, c := range l {
		b.does(t, c)
	}
}

// Every row of calls of an import with a red part and a green one.
func TestP134EveryRow(t *testing.T) {
	t.Parallel()
	o := usual().rules(1, 1)
	alphabet := []call{
		takes(o.seg(api.RedPlain, 0, 2)), takes(o.seg(api.RedCheck, 1, 3, 1)), takes(o.seg(api.RedEnd, 3, 4, 2, 101)), takes(o.seg(api.RedCheck, 0, 2, 3, 102)),
		takes(o.seg(api.GreenLast, 4, 6)), takes(o.seg(api.GreenPlain, 3, 5)), takes(o.seg(api.RedLast, 2, 4, 4)),
		sends(101), lates(101), acks(101), sends(102), acks(102),
	}
	rows(alphabet, 5, func(l []call) { plays(t, begin(t, o), l) })
}

// Every row of calls about one report, and its checkpoint.
func TestP136EveryRow(t *testing.T) {
	t.Parallel()
	o := usual().rules(2, 1)
	alphabet := []call{takes(o.seg(api.RedLast, 0, 2, 1)), sends(101), lates(101), acks(101), takes(o.seg(api.RedCheck, 0, 1, 2))}
	rows(alphabet, 7, func(l []call) { plays(t, begin(t, o), l) })
}

// Every row of calls behind a start anew.
func TestP132EveryRow(t *testing.T) {
	t.Parallel()
	o := usual().rules(1, 1)
	for _, x := range []api.Incoming{
		{Have: spans(0, 2, 3, 4), Data: []byte{1, 2, 0, 4}},
		{Have: spans(0, 4), Red: 4, Delivered: true, Heard: true},
		{Size: 6},
	} {
		alphabet := []call{
			takes(o.seg(api.RedCheck, 2, 3, 1, 101)), takes(o.seg(api.RedEnd, 1, 4, 2)), takes(o.seg(api.GreenLast, 4, 6)), takes(o.seg(api.RedCheck, 0, 1, 3)),
			takes(o.seg(api.RedLast, 4, 6, 4)), sends(101), lates(101), acks(101), acks(102), drops(),
		}
		rows(alphabet, 4, func(l []call) {
			b, _ := again(t, o, x)
			plays(t, b, l)
		})
	}
}
