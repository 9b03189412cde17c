package engine_test

import (
	"testing"

	"lantern/api"
	"lantern/record"
)

// Each field of a Sight, from the beginning on.
func TestP146Sight(t *testing.T) {
	b := on(1<<13, with(tight(), func(c *api.Config) { c.Queue = 3 }))
	b.boot(t, 0)
	frames, _ := record.Frame([]api.Record{recBoot(1, 1)})
	want := api.Sight{Boots: 1, Next: 1, Journal: len(frames)}
	is := func() {
		t.Helper()
		got := b.e.Sight()
		want.Journal = got.Journal
		_, size, _ := journalOf(b.h)
		fatalIf(t, got != want || got.Journal != size, "behind %s: %+v, not %+v", b.last, got, want)
	}
	is()
	submitted(t, b, 2, 7, wholeRow[:20], 20, 1)
	want.Next, want.Exports, want.Waiting = 2, 1, 1
	is()
	submitted(t, b, 3, 7, wholeRow[:20], 0, 2)
	want.Next, want.Exports, want.Waiting = 3, 2, 2
	is()
	b.tick(t) // 3 is shut
	want.Now, want.Waiting, want.Timers = 1, 1, 1
	is()
	b.tick(t)
	want.Now, want.Exports, want.Waiting = 2, 1, 0
	is()
	s := session(2, 1)
	b.gets(t, 2, red(api.RedCheck, s, 0, 9, 1))
	want.Imports, want.Held, want.Timers, want.Waiting = 1, 9, 2, 1
	is()
	x := red(api.RedPlain, s, 0, 11)
	x.Data = make([]byte, 11)
	b.gets(t, 2, x)
	want.Held, want.Clash = 11, 9
	is()
	b.receive(t, 2, []byte{255})
	want.Bad++
	b.comes(t, 2, red(api.RedPlain, session(3, 1), 0, 9))
	want.Stray++
	b.gets(t, 2, serves(red(api.RedPlain, s, 0, 9), 8))
	b.gets(t, 2, acks(session(2, 2), 1))
	want.Late += 2
	b.gets(t, 2, green(api.GreenPlain, session(2, 2), 0, 9))
	b.gets(t, 2, serves(green(api.GreenPlain, session(2, 2), 0, 9), 9))
	want.Refused++
	is()
	for i := range 5 {
		b.gets(t, 3, calls(12, session(3, 1+i), 0))
	}
	want.Waiting, want.Lost = want.Waiting+3, 2
	is()
	b.leaves(0)
	b.comes(t, 2, red(api.RedPlain, s, 11, 12))
	want.Full++
	is()
	b.frees()
	b.tick(t) // the report goes to 2; to 3 one answer
	want.Now, want.Waiting, want.Timers = 3, 2, 3
	is()
	b.again(t, wide, 3)
	want = api.Sight{Now: 3, Boots: 2, Next: 3, Exports: 1, Imports: 1, Waiting: 2, Timers: 1, Held: 11}
	is()
}
