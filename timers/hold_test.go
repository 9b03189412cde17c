package timers_test

import (
	"testing"

	"lantern/timers"
)

func TestP104HeldAndLetGoTwice(t *testing.T) {
	x, a, c := timers.New(), keyA(), keyC()
	starts(t, x, a, 3)
	starts(t, x, c, 9)
	x.Hold(1)
	x.Hold(1)
	ticks(t, x)
	has(t, x, a, 3)
	x.Go(1) // once is enough, though it was held twice
	ticks(t, x)
	has(t, x, a, 2)
	x.Go(1)
	x.Go(1)
	ticks(t, x)
	has(t, x, a, 1)
	x.Hold(1) // and once holds, though it was let go twice
	ticks(t, x)
	ticks(t, x)
	has(t, x, a, 1)
	has(t, x, c, 4)
	x.Go(1)
	ticks(t, x, a)
}

// A peer is held whether there are timers of it or not, and stays so when they are gone.
func TestP104HeldAheadOfItsTimers(t *testing.T) {
	x, a, b, c := timers.New(), keyA(), keyB(), keyC()
	x.Hold(1)
	ticks(t, x)
	starts(t, x, a, 1)
	starts(t, x, c, 1)
	ticks(t, x, c)
	has(t, x, a, 1)
	fatalIf(t, !x.Stop(a), "there was a timer of A")
	starts(t, x, a, 2)
	ticks(t, x)
	has(t, x, a, 2)
	fatalIf(t, x.Drop(a.Session) != 1, "there was a timer of A")
	starts(t, x, b, 1)
	ticks(t, x)
	ticks(t, x)
	has(t, x, b, 1)
	x.Go(1)
	ticks(t, x, b)
	x.Hold(1) // behind the last one, too
	starts(t, x, a, 1)
	ticks(t, x)
	x.Go(1)
	ticks(t, x, a)
}

func TestP104LetGoThatWasNotHeld(t *testing.T) {
	x, a := timers.New(), keyA()
	x.Go(1)
	x.Go(2)
	starts(t, x, a, 2)
	x.Go(1)
	ticks(t, x)
	x.Hold(1)
	ticks(t, x)
	has(t, x, a, 1)
	x.Go(2) // another one
	ticks(t, x)
	has(t, x, a, 1)
	x.Go(1)
	ticks(t, x, a)
}

// A timer that is started again while its peer is held has all its ticks when that is let go.
func TestP104AnewWhileHeld(t *testing.T) {
	x, a := timers.New(), keyA()
	starts(t, x, a, 3)
	ticks(t, x)
	x.Hold(1)
	ticks(t, x)
	has(t, x, a, 2)
	starts(t, x, a, 5)
	ticks(t, x)
	has(t, x, a, 5)
	starts(t, x, a, 2)
	ticks(t, x)
	has(t, x, a, 2)
	e := x.Start(a, 0)
	fatalIf(t, e != arg, "Start with no ticks: %d", e)
	has(t, x, a, 2)
	counts(t, x, 1)
	x.Go(1)
	ticks(t, x)
	ticks(t, x, a)
}

// Any number may be held and let go, one that is no peer's too, and that is nothing to the others.
func TestP104AnyNumber(t *testing.T) {
	numbers := []int{minInt, minInt + 1, -top, -2, -1, 0, 2, 3, 1 << 31, 1 << 32, 1<<32 + 1, 1<<33 + 1, top, top + 1, top + 2, maxInt}
	x, a := timers.New(), keyA()
	starts(t, x, a, longest)
	for i, n := range numbers {
		x.Hold(n)
		x.Hold(n)
		counts(t, x, 1)
		ticks(t, x)
		has(t, x, a, longest-1-i)
	}
	at := longest - len(numbers)
	x.Hold(1)
	for _, n := range numbers {
		x.Go(n)
		x.Go(n)
		ticks(t, x)
		has(t, x, a, at)
	}
	x.Go(1)
	ticks(t, x)
	has(t, x, a, at-1)
}

// Each peer is held for itself alone, by its whole number.
func TestP104EachPeerForItself(t *testing.T) {
	peers := []int{1, 2, 3, 257, 1 << 31, 1<<32 + 1, 1<<32 + 2, top - 1, top}
	for _, held := range peers {
		x := timers.New()
		for _, peer := range peers {
			starts(t, x, key(peer, held, 9, 2, 0), 2) // a session's origin is no peer here
		}
		x.Hold(held)
		ticks(t, x)
		for _, peer := range peers {
			want := 1
			if peer == held {
				want = 2
			}
			has(t, x, key(peer, held, 9, 2, 0), want)
		}
		counts(t, x, len(peers))
		n := len(x.Tick())
		fatalIf(t, n != len(peers)-1, "%d ran out while %d is held", n, held)
		counts(t, x, 1)
		x.Go(held)
		ticks(t, x)
		ticks(t, x, key(held, held, 9, 2, 0))
	}
}

// All are held for long: nothing becomes less; Count tells them all.
func TestP105AllHeld(t *testing.T) {
	x := timers.New()
	for n := 1; n <= 50; n++ {
		starts(t, x, key(n, 1, 1, 1, 0), n)
		x.Hold(n)
	}
	for range 200 {
		ticks(t, x)
		counts(t, x, 50)
	}
	for n := 1; n <= 50; n++ {
		has(t, x, key(n, 1, 1, 1, 0), n)
		x.Go(n)
	}
	for n := 1; n <= 50; n++ {
		ticks(t, x, key(n, 1, 1, 1, 0))
	}
	counts(t, x, 0)
}

// Held at one tick of two, the longest timer takes twice as long.
func TestP108TheLongestHeldNowAndThen(t *testing.T) {
	x, a := timers.New(), keyA()
	starts(t, x, a, longest)
	for range longest - 1 {
		x.Hold(1)
		ticks(t, x)
		x.Go(1)
		ticks(t, x)
	}
	x.Hold(1)
	ticks(t, x)
	has(t, x, a, 1)
	x.Go(1)
	ticks(t, x, a)
}
