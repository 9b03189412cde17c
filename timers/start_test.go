package timers_test

import (
	"testing"

	"lantern/api"
	"lantern/timers"
)

// fieldsOf are the places of a key's fields, in the order of keys.
func fieldsOf(k *api.Key) []*int {
	return []*int{&k.Peer, &k.Session.Origin, &k.Session.Number, &k.Kind, &k.Serial}
}

// withField is a key with another number in one of its fields.
func withField(k api.Key, field, n int) api.Key {
	*fieldsOf(&k)[field] = n
	return k
}

// mays are numbers that each field may have, the limits and those within among them; each row is sorted.
func mays() [5][]int {
	return [5][]int{
		{1, 2, 1 << 32, top - 1, top},
		{1, 2, 1 << 32, top - 1, top},
		{1, 2, 1 << 32, top - 2, top - 1},
		{1, 2, 3, 4},
		{0, 1, 1 << 32, top - 1, top},
	}
}

// mayNots are numbers that each field may not have, one past the limits among them.
func mayNots() [5][]int {
	return [5][]int{
		{minInt, -top, -1, 0, top + 1, top + 2, maxInt},
		{minInt, -top, -1, 0, top + 1, top + 2, maxInt},
		{minInt, -top, -1, 0, top, top + 1, maxInt},
		{minInt, -4, -1, 0, 5, 6, 257, 1<<32 + 1, top, maxInt},
		{minInt, -top, -1, top + 1, top + 2, maxInt},
	}
}

// allMays are all keys that these numbers make, in the order of keys.
func allMays() (l []api.Key) {
	m := mays()
	for _, peer := range m[0] {
		for _, origin := range m[1] {
			for _, number := range m[2] {
				for _, kind := range m[3] {
					for _, serial := range m[4] {
						l = append(l, key(peer, origin, number, kind, serial))
					}
				}
			}
		}
	}
	return l
}

// allMayNots are keys with one field, or two, that may not be.
func allMayNots() (l []api.Key) {
	for field, numbers := range mayNots() {
		for _, n := range numbers {
			for _, k := range []api.Key{keyA(), keyB(), keyC(), key(top, top, top-1, 4, top)} {
				l = append(l, withField(k, field, n))
			}
			for other, others := range mayNots() {
				if other != field {
					l = append(l, withField(withField(keyA(), field, n), other, others[0]))
				}
			}
		}
	}
	return append(l, api.Key{})
}

// wrongTicks are not 1 to MaxTimer.
func wrongTicks() []int {
	return []int{minInt, -longest, -1, 0, longest + 1, longest + 2, 1 << 32, 1<<32 + 1, top, maxInt}
}

func TestErrors(t *testing.T) {
	fatalIf(t, api.ErrArg != 1 || api.ErrTimersKey != 100, "ErrArg %d, ErrTimersKey %d", api.ErrArg, api.ErrTimersKey)
	fatalIf(t, api.MaxTimer != longest || api.MaxNum != top, "MaxTimer %d, MaxNum %d", api.MaxTimer, api.MaxNum)
}

// The chapter's examples, on one table where they follow on one another.
func TestExamples(t *testing.T) {
	a, b, c := keyA(), keyB(), keyC()
	x := timers.New()
	starts(t, x, b, 2)
	starts(t, x, a, 2)
	starts(t, x, c, 1)
	counts(t, x, 3)
	ticks(t, x, c)
	ticks(t, x, a, b)
	ticks(t, x)
	starts(t, x, a, 2)
	x.Hold(1)
	ticks(t, x)
	ticks(t, x)
	has(t, x, a, 2)
	x.Go(1)
	ticks(t, x)
	has(t, x, a, 1)
	starts(t, x, a, 3)
	has(t, x, a, 3)
	starts(t, x, b, 1)
	n := x.Drop(a.Session)
	fatalIf(t, n != 2 || x.Count() != 0 || x.Stop(a), "Drop %d, Count %d", n, x.Count())
	for _, y := range []struct {
		k     api.Key
		ticks int
		e     api.Errno
	}{{withField(a, 3, 5), 1, bad}, {a, 0, arg}, {a, longest + 1, arg}} {
		e := x.Start(y.k, y.ticks)
		fatalIf(t, e != y.e || x.Count() != 0, "Start(%v, %d): %d", y.k, y.ticks, e)
	}
}

func TestP101New(t *testing.T) {
	x := timers.New()
	counts(t, x, 0)
	ticks(t, x)
	for _, k := range append(allMays(), allMayNots()...) {
		has(t, x, k, 0)
		fatalIf(t, x.Stop(k), "there was a timer of %v to stop", k)
		fatalIf(t, x.Drop(k.Session) != 0, "there was a timer of %v to drop", k.Session)
	}
	for _, k := range allMays() {
		starts(t, x, k, 1)
	}
	ticks(t, x, allMays()...) // no peer is held
	counts(t, x, 0)
}

// Keys at all limits of their fields stand beside one another, each with ticks of its own.
func TestP102KeysThatMayBe(t *testing.T) {
	x, keys := timers.New(), allMays()
	fatalIf(t, len(keys) != 2500, "%d keys", len(keys))
	for i, k := range keys {
		starts(t, x, k, 1+i)
		has(t, x, k, 1+i)
		counts(t, x, 1+i)
	}
	for i, k := range keys {
		has(t, x, k, 1+i)
	}
	for i, k := range keys {
		ticks(t, x, k)
		counts(t, x, len(keys)-1-i)
	}
}

func TestP102KeysThatMayNot(t *testing.T) {
	x := timers.New()
	starts(t, x, keyA(), 7)
	starts(t, x, keyC(), 8)
	for _, k := range allMayNots() {
		for _, n := range append(wrongTicks(), 1, 2, longest) { // the key is told ahead of the ticks
			e := x.Start(k, n)
			fatalIf(t, e != bad, "Start(%v, %d): %d", k, n, e)
		}
		has(t, x, k, 0)
		counts(t, x, 2)
		fatalIf(t, x.Stop(k), "there was a timer of %v to stop", k)
	}
	has(t, x, keyA(), 7)
	has(t, x, keyC(), 8)
}

func TestP102Ticks(t *testing.T) {
	for _, k := range []api.Key{keyA(), keyC(), key(top, top, top-1, 4, top)} {
		x := timers.New()
		for _, n := range wrongTicks() {
			e := x.Start(k, n)
			fatalIf(t, e != arg, "Start(%v, %d): %d", k, n, e)
			has(t, x, k, 0)
			counts(t, x, 0)
		}
		for _, n := range []int{1, 2, longest - 1, longest} {
			starts(t, x, k, n)
			has(t, x, k, n)
			counts(t, x, 1)
			for _, m := range wrongTicks() { // what is there stays
				e := x.Start(k, m)
				fatalIf(t, e != arg, "Start(%v, %d): %d", k, m, e)
			}
			has(t, x, k, n)
			counts(t, x, 1)
		}
		ticks(t, x)
		has(t, x, k, longest-1)
	}
}

// The longest timer runs out at its last tick, and not one ahead.
func TestP102TheLongest(t *testing.T) {
	x, a, c := timers.New(), keyA(), keyC()
	starts(t, x, a, longest)
	starts(t, x, c, longest-1)
	for range longest - 2 {
		ticks(t, x)
	}
	has(t, x, a, 2)
	ticks(t, x, c)
	has(t, x, a, 1)
	ticks(t, x, a)
	counts(t, x, 0)
	ticks(t, x)
}

// A timer that is started again begins anew, with more ticks and with fewer, and is one timer still.
func TestP102Anew(t *testing.T) {
	for first := 1; first <= 5; first++ {
		for gone := 0; gone < first; gone++ {
			for second := 1; second <= 6; second++ {
				x, a, b := timers.New(), keyA(), keyB()
				starts(t, x, a, first)
				starts(t, x, b, 20)
				for range gone {
					ticks(t, x)
				}
				starts(t, x, a, second)
				counts(t, x, 2)
				has(t, x, a, second)
				has(t, x, b, 20-gone)
				for range second - 1 {
					ticks(t, x)
				}
				ticks(t, x, a)
				has(t, x, a, 0)
				has(t, x, b, 20-gone-second)
			}
		}
	}
}

// What has run out can be started again, as if it had never been.
func TestP102BehindItRanOut(t *testing.T) {
	x, a := timers.New(), keyA()
	for n := 1; n <= 5; n++ {
		starts(t, x, a, n)
		for range n - 1 {
			ticks(t, x)
		}
		ticks(t, x, a)
		counts(t, x, 0)
	}
}

func TestP103Stop(t *testing.T) {
	x, a, b, c := timers.New(), keyA(), keyB(), keyC()
	starts(t, x, a, 1)
	starts(t, x, b, 2)
	fatalIf(t, x.Stop(c), "there was no timer of C")
	counts(t, x, 2)
	fatalIf(t, !x.Stop(a), "there was a timer of A")
	has(t, x, a, 0)
	has(t, x, b, 2)
	counts(t, x, 1)
	fatalIf(t, x.Stop(a), "it was stopped already")
	ticks(t, x)
	ticks(t, x, b)
	fatalIf(t, x.Stop(b), "it has run out")
	starts(t, x, b, 2)
	ticks(t, x)
	x.Hold(b.Peer)
	fatalIf(t, !x.Stop(b), "it stands still, but it is there")
	x.Go(b.Peer)
	ticks(t, x)
	counts(t, x, 0)
}

// Of timers whose keys differ in one field, Stop takes just the one.
func TestP103StopOneOfMany(t *testing.T) {
	for i, k := range allMays() {
		if i%7 != 0 {
			continue
		}
		x := timers.New()
		var others []api.Key
		for field, numbers := range mays() {
			for _, n := range numbers {
				if o := withField(k, field, n); o != k {
					others = append(others, o)
				}
			}
		}
		for _, o := range append(others, k) {
			starts(t, x, o, 3)
		}
		fatalIf(t, !x.Stop(k) || x.Stop(k), "Stop(%v)", k)
		counts(t, x, len(others))
		for _, o := range others {
			has(t, x, o, 3)
		}
	}
}

// All timers of a session go, those of other peers, other kinds and held peers, too; and no others.
func TestP103Drop(t *testing.T) {
	sessions := []api.Session{{Origin: 1, Number: 1}, {Origin: 1, Number: 2}, {Origin: 2, Number: 1}, {Origin: 2, Number: 2}, {Origin: top, Number: top - 1}}
	var keys []api.Key
	for i, s := range sessions {
		for peer := 1; peer <= 3; peer++ {
			for kind := 1; kind <= 4; kind++ {
				for serial := 0; serial <= i; serial++ {
					keys = append(keys, api.Key{Peer: peer, Session: s, Kind: kind, Serial: serial})
				}
			}
		}
	}
	for i, s := range sessions {
		x := timers.New()
		x.Hold(2)
		for _, k := range keys {
			starts(t, x, k, 4)
		}
		ticks(t, x)
		n, want := x.Drop(s), 12*(i+1)
		fatalIf(t, n != want, "Drop(%v): %d, not %d", s, n, want)
		counts(t, x, len(keys)-want)
		fatalIf(t, x.Drop(s) != 0, "Drop(%v) again", s)
		for _, k := range keys {
			switch {
			case k.Session == s:
				has(t, x, k, 0)
			case k.Peer == 2:
				has(t, x, k, 4)
			default:
				has(t, x, k, 3)
			}
		}
	}
}

// A session that has no timers, one that may not be, and one whose numbers are another's, the other way round.
func TestP103DropOfNone(t *testing.T) {
	x := timers.New()
	starts(t, x, key(1, 3, 4, 1, 0), 2)
	for _, s := range []api.Session{{}, {Origin: 4, Number: 3}, {Origin: 3, Number: 5}, {Origin: 2, Number: 4}, {Origin: 3}, {Number: 4}, {Origin: -3, Number: 4}, {Origin: minInt, Number: maxInt}} {
		fatalIf(t, x.Drop(s) != 0, "Drop(%v)", s)
		counts(t, x, 1)
	}
	ticks(t, x)
	ticks(t, x, key(1, 3, 4, 1, 0))
	fatalIf(t, x.Drop(api.Session{Origin: 3, Number: 4}) != 0, "it has run out")
}
