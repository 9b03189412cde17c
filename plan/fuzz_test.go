package plan_test

import (
	"testing"

	"lantern/api"
	"lantern/plan"
)

// read is a list that bytes name, three each: its ticks lie close together, and few of its contacts are wrong.
func read(b []byte, base int) (l []api.Contact) {
	for i := 0; i+2 < len(b); i += 3 {
		from := base + int(b[i]/16)
		c := contact(1+int(b[i]%2), from, from+int(b[i+1]%16), int(b[i+2])*(1+int(b[i+1]/16)))
		l = append(l, c)
	}
	return l
}

// Whatever a list is: it is a plan, and answers, as the model does.
func FuzzPlan(f *testing.F) {
	f.Add([]byte{0, 5, 3, 16, 4, 2, 33, 9, 7}, 0, 1, 2, 3)
	f.Add([]byte{0, 0xf5, 63, 0, 4, 2, 33, 9, 7}, 5, 1, 20, 3000)
	f.Add([]byte{0xf0, 15, 250, 0xf0, 0x3f, 187, 0xf0, 2, 2}, end-20, end-9, end, 40)
	f.Add([]byte{0, 5, 3, 80, 5, 3, 0, 0, 1}, -1, -9, maxInt, minInt)
	f.Fuzz(func(t *testing.T, b []byte, base, tick, other, many int) {
		if base < -100 || base > end {
			base = 0
		}
		l := read(b, base)
		want := isRight(l)
		fatalIf(t, plan.Right(l) != want, "%v: %d, not %d", l, plan.Right(l), want)
		for peer := 0; peer <= 3; peer++ {
			if want != ok {
				answersNothing(t, l, peer, tick, other, many)
				continue
			}
			agrees(t, l, peer, tick, other, many)
			y := newTally(l, peer)
			fatalIf(t, plan.When(l, peer, tick, many) != y.when(tick, many), "%v: When of %d from %d, %d", l, peer, tick, many)
			fatalIf(t, plan.Next(l, peer, tick) != y.next(tick), "%v: Next of %d at %d", l, peer, tick)
		}
	})
}
