package engine_test

import (
	"math/rand/v2"
	"testing"

	"lantern/api"
	"lantern/disk"
)

// call is something that is done with both.
type call func(*testing.T, *both)

func ticking(n int) call {
	return func(t *testing.T, b *both) {
		for range n {
			b.tryTick(t)
		}
	}
}

func submits(peer, service, size, red int) call {
	return func(t *testing.T, b *both) { b.submit(t, peer, service, wholeRow[:size], red) }
}

func cancels(s api.Session) call {
	return func(t *testing.T, b *both) { b.cancel(t, s) }
}

func receives(from int, x api.Segment) call {
	return func(t *testing.T, b *both) { b.comes(t, from, x) }
}

func raws(from int, raw ...byte) call {
	return func(t *testing.T, b *both) { b.receive(t, from, raw) }
}

// reboots loses the power and boots, a little later; what does not boot does not run.
func reboots(keep int) call {
	return func(t *testing.T, b *both) {
		now := b.e.Sight().Now
		b.crash(keep)
		b.tryBoot(t, now+1)
	}
}

// short lets a call be done with room for so many bytes alone.
func short(room int, c call) call {
	return func(t *testing.T, b *both) {
		b.leaves(room)
		c(t, b)
		b.frees()
	}
}

// plays does calls, one behind the other, as long as something runs.
func plays(t *testing.T, b *both, l []call) {
	for _, c := range l {
		if b.e == nil {
			return
		}
		c(t, b)
	}
}

// lot draws what is done: it has both ends in hand, so that what it draws means something often enough.
type lot struct{ *rand.Rand }

func (r lot) among(l ...int) int { return l[r.IntN(len(l))] }

func (r lot) ours() api.Session { return session(r.among(1, 1, 1, 1, 1, 2), 1+r.IntN(5)) }

func (r lot) theirs() api.Session { return session(r.among(2, 2, 2, 3, 3, 1, 9), 1+r.IntN(4)) }

// of is the peer from which something of a session comes, mostly.
func (r lot) of(s api.Session) int {
	if r.IntN(12) == 0 || s.Origin == 1 {
		return r.among(2, 3, 2, 3, 2, 3, 9)
	}
	return s.Origin
}

// reach is how far bytes go.
const reach = 24

func (r lot) data() api.Segment {
	s := r.theirs()
	from := r.among(0, 0, 0, r.IntN(reach))
	to := from + 1 + r.IntN(reach-from)
	if r.IntN(3) == 0 {
		to = reach
	}
	x := red(r.among(0, 1, 2, 3, 3, 4, 7), s, from, to)
	if x.Type >= 1 && x.Type <= 3 {
		x.Check, x.Report = 1+r.IntN(5), r.among(0, 0, epoch+1, 2*epoch+1, epoch+2)
	}
	x.Service = r.among(7, 7, 7, 7, 7, 8, 9)
	if r.IntN(10) == 0 {
		x.Data = append([]byte{200}, x.Data[1:]...)
	}
	return x
}

// serial is one that may be known, of this boot or of another one.
func (r lot) serial(boots int) int {
	return max(boots-r.among(0, 0, 0, 0, 1), 0)*epoch + 1 + r.IntN(6)
}

func (r lot) report(boots int) api.Segment {
	lower := r.among(0, 0, r.IntN(reach))
	upper := lower + 1 + r.IntN(120)
	x := tells(r.ours(), 1+r.IntN(8), r.serial(boots), lower, upper)
	for at := lower + r.among(0, 0, 1); at < upper && len(x.Claims) < 3; {
		to := at + 1 + r.IntN(upper-at)
		x.Claims = append(x.Claims, span(at, to))
		at = to + 1 + r.IntN(5)
	}
	if len(x.Claims) == 0 {
		x.Claims = spans(lower, upper)
	}
	return x
}

func (r lot) segment(boots int) (int, api.Segment) {
	var x api.Segment
	switch n := r.IntN(20); {
	case n < 10:
		x = r.data()
	case n < 13:
		x = r.report(boots)
	case n < 16:
		x = acks(r.theirs(), r.serial(boots))
	case n < 17:
		x = calls(12, r.theirs(), r.IntN(6))
	case n < 18:
		x = calls(14, r.ours(), r.IntN(6))
	case n < 19:
		x = calls(13, r.ours(), 0)
	default:
		x = calls(15, r.theirs(), 0)
	}
	return r.of(x.Session), x
}

func (r lot) call(b *both) call {
	switch n := r.IntN(100); {
	case n < 30:
		return ticking(1 + r.among(0, 0, 0, 1, 5))
	case n < 42:
		size := 1 + r.IntN(150)
		return submits(r.among(2, 3, 2, 3, 2, 3, 9), r.among(7, 0, 9), size, r.among(0, size, size, size, r.IntN(size+1)))
	case n < 46:
		if r.IntN(2) == 0 {
			return cancels(r.ours())
		}
		return cancels(r.theirs())
	case n < 48:
		return raws(r.among(2, 3, 9), byte(r.IntN(16)), 2, 1, byte(r.IntN(3)))
	case n < 50:
		return reboots(r.among(0, r.IntN(60), wide))
	}
	from, x := r.segment(b.e.Sight().Boots)
	return receives(from, x)
}

// drawn is a configuration by chance.
func (r lot) drawn() api.Config {
	return with(tight(), func(c *api.Config) {
		c.Rules = api.Rules{Retry: 1 + r.IntN(3), Cycles: 1 + r.IntN(3)}
		c.Sessions = 1 + r.IntN(4)
		c.Hold = r.among(20, 40, 60, 1000)
		c.Idle = r.among(1, 2, 5, 9, 40)
		c.Every = r.IntN(3)
		c.Queue = r.among(1, 3, 5, 9, 100)
		c.Compact = r.among(1, 100, 300, 1000, 1<<30)
		c.Peers[0].Timeout, c.Peers[1].Timeout = 1+r.IntN(4), 1+r.IntN(4)
		c.Contacts[0].Rate = 1 + r.IntN(4)
	})
}

// Long rows of calls by chance; now and then there is no room for some bytes of what a call would write, or the power goes.
func TestP144LongRows(t *testing.T) {
	t.Parallel()
	for seed := range uint64(350) {
		r := lot{rand.New(rand.NewPCG(seed, 144))}
		b := on(1<<15, r.drawn())
		b.boot(t, 0)
		for range 150 {
			c := r.call(b)
			switch r.IntN(30) {
			case 0:
				c = short(r.among(0, 12, 20, 30, r.IntN(80)), c)
			case 1:
				if seed%2 == 1 {
					b.hands(func(h *disk.Hand) { h.Arm(b.e.Sight().Now%4, b.e.Sight().Timers%2 == 0) })
				}
			}
			c(t, b)
			if b.e == nil || b.m.dead {
				b.crash(r.among(0, r.IntN(60), wide))
				b.frees() // a disk that was down took no notice of it
				b.boot(t, 3)
			}
		}
	}
}
