package engine_test

import (
	"testing"

	"lantern/api"
)

// Without an import green bytes are told, and nothing is kept of them.
func TestP144GreenAlone(t *testing.T) {
	s := session(2, 1)
	b := begin(t, usual())
	for range 2 {
		b.untouched(t, func() {
			told(t, b.gets(t, 2, green(api.GreenPlain, s, 3, 9)), noteGreen(s, 3, 9, false))
			told(t, b.gets(t, 2, green(api.GreenLast, s, 9, 12)), noteGreen(s, 9, 12, true))
			told(t, b.gets(t, 2, green(api.GreenLast, s, 0, 5)), noteGreen(s, 0, 5, true)) // even if that can't be of one block
		}, nil)
	}
	told(t, b.gets(t, 2, red(api.RedEnd, s, 0, 3, 1)), noteIn(api.NoteStart, s, 7, nil), noteIn(api.NoteRed, s, 7, wholeRow[:3]))
	told(t, b.gets(t, 2, green(api.GreenPlain, s, 3, 9)), noteGreen(s, 3, 9, false))
}

// An import whose service is ours no more takes red bytes still, and no green ones.
func TestP144ServiceGone(t *testing.T) {
	s := session(2, 1)
	b := on(wide, with(usual(), func(c *api.Config) { c.Services = []int{8} })).puts(t, recBoot(1, 1), recRed(s, 0, 5, 0, 0))
	b.boot(t, 0)
	quiet(t, b, 2, green(api.GreenLast, s, 9, 12), "Refused")
	quiet(t, b, 2, green(api.GreenLast, s, 1, 2), "Refused") // though it is wrong, too
	told(t, b.gets(t, 2, red(api.RedEnd, s, 5, 9, 1)), noteIn(api.NoteRed, s, 7, wholeRow[:9]))
}

// While the session is cancelled, green bytes are late, too.
func TestP144GreenLate(t *testing.T) {
	s := session(2, 1)
	b := begin(t, usual())
	b.gets(t, 2, serves(red(api.RedPlain, s, 0, 5), 9))
	quiet(t, b, 2, green(api.GreenLast, s, 9, 12), "Late")
	quiet(t, b, 2, serves(green(api.GreenLast, s, 9, 12), 9), "Late")
	b.gets(t, 2, calls(15, s, 0))
	told(t, b.gets(t, 2, green(api.GreenLast, s, 9, 12)), noteGreen(s, 9, 12, true))
}

// The block's length comes behind the acknowledgement of all: then it is shut.
func TestP144GreenShuts(t *testing.T) {
	s := session(2, 1)
	for _, early := range []bool{false, true} {
		b := begin(t, usual())
		b.gets(t, 2, red(api.RedEnd, s, 0, 3, 1))
		if early {
			told(t, b.gets(t, 2, green(api.GreenLast, s, 5, 9)), noteGreen(s, 5, 9, true))
		}
		b.tick(t)
		before := len(b.records())
		told(t, b.gets(t, 2, acks(s, epoch+1)))
		if !early {
			told(t, b.gets(t, 2, green(api.GreenPlain, s, 3, 5)), noteGreen(s, 3, 5, false))
			fatalIf(t, b.e.Sight().Imports != 1, "it is shut, though its length is not known")
			told(t, b.gets(t, 2, green(api.GreenLast, s, 5, 9)), noteGreen(s, 5, 9, true))
		}
		b.adds(t, before, recShut(s))
		fatalIf(t, b.loose() == 0, "RecShut is safe")
		fatalIf(t, b.e.Sight().Imports+b.e.Sight().Timers != 0, "Sight: %+v", b.e.Sight())
		quiet(t, b, 2, green(api.GreenPlain, s, 3, 5), "Late")
	}
}

// shutter is what shuts an import that is delivered, behind something else: with what it tells and sends, whether it is shut or not.
type shutter struct {
	ahead, x api.Segment
	tells    []api.Notice
	sends    []api.Segment
}

func shutters(s api.Session) []shutter {
	last := green(api.GreenLast, s, 5, 9)
	return []shutter{
		{acks(s, epoch+1), last, []api.Notice{noteGreen(s, 5, 9, true)}, nil},
		{last, acks(s, epoch+1), nil, nil},
		{acks(s, 99), calls(12, s, 2), nil, []api.Segment{calls(13, s, 0)}},
	}
}

// An acknowledgement, or green bytes, that would shut it, without room: all but that is done, and no error is told; it is shut when there is room.
func TestP144ShutNoRoom(t *testing.T) {
	s := session(2, 1)
	for _, c := range shutters(s) {
		for _, room := range []int{0, 10} {
			b := on(1<<12, usual())
			b.boot(t, 0)
			b.gets(t, 2, red(api.RedEnd, s, 0, 3, 1))
			b.tick(t)
			b.gets(t, 2, c.ahead)
			before := len(b.records())
			b.leaves(room)
			b.counted(t, func() { told(t, b.gets(t, 2, c.x), c.tells...) }, one("Full"))
			b.counted(t, func() { told(t, b.gets(t, 2, c.x), c.tells...) }, one("Full"))
			b.adds(t, before)
			fatalIf(t, b.e.Sight().Imports != 1, "it is not there")
			b.frees()
			_, l := b.tick(t)
			sent(t, l, append(c.sends, c.sends...)...)
			b.counted(t, func() { told(t, b.gets(t, 2, c.x), c.tells...) }, nil)
			b.adds(t, before, recShut(s))
			fatalIf(t, b.e.Sight().Imports != 0, "it is there still")
		}
	}
}
