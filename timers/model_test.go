package timers_test

import (
	"math"
	"slices"
	"testing"

	"lantern/api"
	"lantern/timers"
)

// What the chapter says, once more and in another way than the package: nothing is kept but what was called, and each key is followed through that, tick by tick, as if there were no other one.

const (
	top     = 1<<62 - 1 // MaxNum
	longest = 1 << 20   // MaxTimer
	maxInt  = math.MaxInt
	minInt  = math.MinInt
	ok      = api.OK
	bad     = api.ErrTimersKey
	arg     = api.ErrArg
)

func key(peer, origin, number, kind, serial int) api.Key {
	return api.Key{Peer: peer, Session: api.Session{Origin: origin, Number: number}, Kind: kind, Serial: serial}
}

func fatalIf(t *testing.T, wrong bool, words string, what ...any) {
	t.Helper()
	if wrong {
		t.Fatalf(words, what...)
	}
}

// What can be called.
const (
	start = "Start"
	stop  = "Stop"
	drop  = "Drop"  // of the key's session
	hold  = "Hold"  // of the key's peer
	goOn  = "Go"    // of the key's peer
	tick  = "Tick"  // of nobody's key
	none  = "?none" // no call
)

// call is one of a table, with its key and its ticks, as far as it has some.
type call struct {
	do    string
	key   api.Key
	ticks int
}

// isRight is what Start is to answer.
func isRight(k api.Key, ticks int) api.Errno {
	for _, x := range [][3]int{{k.Peer, 1, top}, {k.Session.Origin, 1, top}, {k.Session.Number, 1, top - 1}, {k.Kind, 1, 4}, {k.Serial, 0, top}} {
		if x[0] < x[1] || x[0] > x[2] {
			return bad
		}
	}
	if ticks < 1 || ticks > longest {
		return arg
	}
	return ok
}

// left is how many ticks the timer of a key has left behind these calls; 0: there is none.
func left(l []call, k api.Key) int {
	ticks, held := 0, false
	for _, c := range l {
		switch {
		case c.do == start && c.key == k && isRight(k, c.ticks) == ok:
			ticks = c.ticks
		case c.do == stop && c.key == k, c.do == drop && c.key.Session == k.Session:
			ticks = 0
		case c.do == hold && c.key.Peer == k.Peer:
			held = true
		case c.do == goOn && c.key.Peer == k.Peer:
			held = false
		case c.do == tick && ticks > 0 && !held:
			ticks--
		}
	}
	return ticks
}

// those are the keys of which there are timers behind these calls.
func those(l []call, keys []api.Key) (out []api.Key) {
	for _, k := range keys {
		if left(l, k) > 0 {
			out = append(out, k)
		}
	}
	return out
}

// does calls a table and wants what comes of it; the keys are all that are ever called, in their order.
func does(t *testing.T, x *timers.Timers, before []call, c call, keys []api.Key) {
	t.Helper()
	switch c.do {
	case start:
		e, want := x.Start(c.key, c.ticks), isRight(c.key, c.ticks)
		fatalIf(t, e != want, "behind %v: %v answers %d, not %d", before, c, e, want)
	case stop:
		was, want := x.Stop(c.key), left(before, c.key) > 0
		fatalIf(t, was != want, "behind %v: %v answers %t", before, c, was)
	case drop:
		n, want := x.Drop(c.key.Session), 0
		for _, k := range those(before, keys) {
			if k.Session == c.key.Session {
				want++
			}
		}
		fatalIf(t, n != want, "behind %v: %v answers %d, not %d", before, c, n, want)
	case hold:
		x.Hold(c.key.Peer)
	case goOn:
		x.Go(c.key.Peer)
	case tick:
		behind := append(slices.Clone(before), c)
		want := slices.DeleteFunc(those(before, keys), func(k api.Key) bool { return left(behind, k) > 0 })
		out := x.Tick()
		fatalIf(t, !slices.Equal(out, want), "behind %v: Tick answers %v, not %v", before, out, want)
	}
}

// stands wants of a table what is left of each key behind these calls.
func stands(t *testing.T, x *timers.Timers, l []call, keys []api.Key) {
	t.Helper()
	for _, k := range keys {
		n, there := x.Left(k)
		want := left(l, k)
		fatalIf(t, n != want || there != (want > 0), "behind %v: Left(%v) answers %d, %t, not %d", l, k, n, there, want)
	}
	want := len(those(l, keys))
	fatalIf(t, x.Count() != want, "behind %v: Count answers %d, not %d", l, x.Count(), want)
}

// plays makes a table by calls, and wants what comes of each, and how it stands behind the last one.
func plays(t *testing.T, l []call, keys []api.Key) *timers.Timers {
	t.Helper()
	x := timers.New()
	for i, c := range l {
		does(t, x, l[:i], c, keys)
	}
	stands(t, x, l, keys)
	return x
}

// starts wants that a timer can be started.
func starts(t *testing.T, x *timers.Timers, k api.Key, ticks int) {
	t.Helper()
	e := x.Start(k, ticks)
	fatalIf(t, e != ok, "Start(%v, %d): %d", k, ticks, e)
}

// ticks wants that just these run out at a tick.
func ticks(t *testing.T, x *timers.Timers, want ...api.Key) {
	t.Helper()
	out := x.Tick()
	fatalIf(t, !slices.Equal(out, want), "Tick: %v, not %v", out, want)
}

// has wants that a timer has so many ticks left; 0: that there is none.
func has(t *testing.T, x *timers.Timers, k api.Key, want int) {
	t.Helper()
	n, there := x.Left(k)
	fatalIf(t, n != want || there != (want > 0), "Left(%v): %d, %t, not %d", k, n, there, want)
}

// counts wants that there are so many timers.
func counts(t *testing.T, x *timers.Timers, want int) {
	t.Helper()
	fatalIf(t, x.Count() != want, "Count: %d, not %d", x.Count(), want)
}

// The chapter's keys.
func keyA() api.Key { return key(1, 1, 1, 1, 5) }
func keyB() api.Key { return key(1, 1, 1, 3, 12) }
func keyC() api.Key { return key(2, 2, 1, 4, 0) }
