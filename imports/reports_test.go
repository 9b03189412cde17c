package imports_test

import (
	"testing"

	"lantern/api"
)

// What is done to a report: each state in which it can be.
type state struct {
	name       string
	do         []func(int) call
	waits, out bool
	acked      bool
}

func states() []state {
	return []state{
		{"it waits", nil, true, false, false},
		{"it is out", []func(int) call{sends}, false, true, false},
		{"it waits again", []func(int) call{sends, lates}, true, true, false},
		{"it is out again", []func(int) call{sends, lates, sends}, false, true, false},
		{"it is acknowledged ahead of going out", []func(int) call{acks}, true, false, true},
		{"it is acknowledged, and then goes out", []func(int) call{acks, sends}, false, true, true},
		{"it is out, and acknowledged", []func(int) call{sends, acks}, false, true, true},
		{"it waits again, and is acknowledged", []func(int) call{sends, lates, acks}, true, true, true},
	}
}

// in is an import with two reports, of which the first one is in that state.
func in(t *testing.T, s state) (*both, api.Segment) {
	t.Helper()
	b := begin(t, usual())
	got := b.take(t, api.RedCheck, 0, 10, 1)
	b.take(t, api.RedLast, 10, 20, 2)
	for _, do := range s.do {
		b.does(t, do(101))
	}
	r := b.m.letters[0]
	fatalIf(t, r.waits != s.waits || r.out != s.out || r.acked != s.acked, "%s: %+v", s.name, r)
	return b, got.Send[0]
}

// Sent, Late, Ack and its checkpoint, of a report in each state; and each of these behind each.
func TestP135EachState(t *testing.T) {
	for _, s := range states() {
		b, _ := in(t, s)
		want := api.Moves{}
		if s.waits && !s.acked {
			want = starts(101)
		}
		b.wants(t, sends(101), want)
		b.wants(t, sends(101), api.Moves{})

		b, r := in(t, s)
		want = api.Moves{}
		if !s.waits && !s.acked {
			want = brings(r)
		}
		b.wants(t, lates(101), want)
		b.wants(t, lates(101), api.Moves{})

		b, _ = in(t, s)
		want = api.Moves{}
		if !s.acked {
			want = stops(101)
		}
		b.wants(t, acks(101), want)
		b.wants(t, acks(101), api.Moves{})
		fatalIf(t, b.Waits() != 1, "%s: Waits %d", s.name, b.Waits())

		b, r = in(t, s)
		want = api.Moves{}
		if !s.waits && !s.acked {
			want = brings(r)
		}
		b.wants(t, takes(b.m.seg(api.RedCheck, 0, 10, 1)), want)
		b.wants(t, takes(b.m.seg(api.RedCheck, 0, 10, 1)), api.Moves{})
	}
}

// The other report is not touched by any of these.
func TestP135TheOther(t *testing.T) {
	for _, s := range states() {
		b, _ := in(t, s)
		b.wants(t, lates(102), api.Moves{})
		b.wants(t, sends(102), starts(102))
		b.wants(t, lates(102), brings(b.tells(102, 2, 0, 20, 0, 20)))
		b.wants(t, acks(102), stops(102))
	}
}

// Of a report that never was: nothing, at every edge of numbers.
func TestP135NoReport(t *testing.T) {
	for _, base := range []int{0, 100, top / 2} {
		b := begin(t, usual().from(base))
		b.take(t, api.RedCheck, 0, 10, 1)
		b.does(t, sends(base+1))
		for _, serial := range []int{minInt, minInt + base, minInt + base + 1, -base - 1, -1, 0, base, base + 2, base + 3, top, maxInt} {
			b.wants(t, sends(serial), api.Moves{})
			b.wants(t, lates(serial), api.Moves{})
			b.wants(t, acks(serial), api.Moves{})
		}
		fatalIf(t, b.Waits() != 1, "Waits: %d", b.Waits())
		b.wants(t, lates(base+1), brings(b.tells(base+1, 1, 0, 10, 0, 10)))
	}
}

// Late sends a report again for Retry times, each time as it was; then it is Over, as often as that is asked, and nothing has changed.
func TestP136Retry(t *testing.T) {
	for _, retry := range []int{1, 2, 3, 99, 100} {
		b := begin(t, usual().rules(retry, 1))
		got := b.take(t, api.RedCheck, 0, 10, 1)
		b.take(t, api.RedPlain, 15, 20) // what comes later is not told in it
		b.wants(t, sends(101), starts(101))
		for range retry {
			b.wants(t, lates(101), got)
			b.wants(t, sends(101), starts(101))
		}
		before := shows(b.Import)
		for range 3 {
			b.wants(t, lates(101), overFor(api.ByRetry))
			fatalIf(t, !shows(b.Import).same(before), "Over changed something")
		}
		// It is there still: its checkpoint sends it, it goes out, and is acknowledged.
		b.wants(t, takes(b.m.seg(api.RedCheck, 0, 10, 1)), got)
		b.wants(t, lates(101), api.Moves{})
		b.wants(t, sends(101), starts(101))
		b.wants(t, lates(101), overFor(api.ByRetry))
		b.wants(t, acks(101), stops(101))
		b.wants(t, lates(101), api.Moves{})
	}
}

// What its checkpoint sends again is not counted.
func TestP136CheckpointsAreNotCounted(t *testing.T) {
	b := begin(t, usual())
	x := b.m.seg(api.RedCheck, 0, 10, 1)
	got := b.does(t, takes(x))
	b.does(t, sends(101))
	for range 10 {
		b.wants(t, takes(x), got)
		b.does(t, sends(101))
	}
	for range 2 {
		b.wants(t, lates(101), got)
		b.wants(t, takes(x), api.Moves{})
		b.does(t, sends(101))
		b.wants(t, takes(x), got)
		b.does(t, sends(101))
	}
	b.wants(t, lates(101), overFor(api.ByRetry))
}

// Each report is counted for itself; those of Back too.
func TestP136EachForItself(t *testing.T) {
	b, got := again(t, usual(), journal(0, 0, 0, 3, 5, 9))
	b.take(t, api.RedCheck, 3, 5, 1)
	for _, serial := range []int{101, 102} {
		b.does(t, sends(serial))
	}
	for range 2 {
		b.wants(t, lates(101), got)
		b.does(t, sends(101))
	}
	b.wants(t, lates(101), overFor(api.ByRetry))
	b.wants(t, lates(102), brings(b.tells(102, 1, 0, 5, 0, 5)))
	b.does(t, sends(102))
	b.wants(t, lates(101), overFor(api.ByRetry))
	b.wants(t, lates(102), brings(b.tells(102, 1, 0, 5, 0, 5)))
	b.does(t, sends(102))
	b.wants(t, lates(102), overFor(api.ByRetry))
}

// Ack in any order: each is stopped once, and Waits falls by one each time.
func TestP137Order(t *testing.T) {
	orders(5, func(order []int) {
		b := begin(t, usual())
		for i := range 5 {
			b.take(t, api.RedCheck, 10*i, 10*i+10, i+1)
		}
		for n, i := range order {
			b.wants(t, acks(101+i), stops(101+i))
			b.wants(t, acks(101+i), api.Moves{})
			fatalIf(t, b.Waits() != 4-n, "Waits: %d", b.Waits())
		}
	})
}

// What was acknowledged does not come back: not by its checkpoint, not by Late, not by Sent; new reports go on behind it.
func TestP137Stays(t *testing.T) {
	b := begin(t, usual())
	b.take(t, api.RedCheck, 0, 10, 1)
	b.does(t, acks(101))
	for _, c := range []call{sends(101), lates(101), acks(101), takes(b.m.seg(api.RedCheck, 0, 10, 1))} {
		b.wants(t, c, api.Moves{})
	}
	b.wants(t, takes(b.m.seg(api.RedCheck, 0, 12, 2)), brings(b.tells(102, 2, 0, 12, 0, 12)))
}
