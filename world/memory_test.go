package world_test

import (
	"bytes"
	"math/rand/v2"
	"runtime"
	"slices"
	"testing"
	"weak"

	"lantern/api"
	"lantern/world"
)

// roomy is a copy of a list with spare room, all of it marked.
func roomy[T any](l []T, mark T) []T {
	out := slices.Repeat([]T{mark}, len(l)+3)
	copy(out, l)
	return out[:len(l)]
}

// whole is a list with its spare room.
func whole[T any](l []T) []T { return l[:cap(l)] }

// fill writes over a list, and its spare room.
func fill[T any](l []T, mark T) {
	for i := range whole(l) {
		whole(l)[i] = mark
	}
}

// handed is what is handed in, each list of it with spare room.
func handed(s setup, script []api.Event) (setup, []api.Event) {
	s = s.with(func(c *api.Config) {
		c.Peers, c.Services, c.Contacts = roomy(c.Peers, api.Peer{Id: 98}), roomy(c.Services, 98), roomy(c.Contacts, api.Contact{Peer: 98})
	})
	script = roomy(script, api.Event{Kind: 98})
	for i, x := range script {
		script[i].Data = roomy(x.Data, 77)
	}
	return s, script
}

// unchanged tells whether lists are still as handed made them.
func unchanged(s setup, script []api.Event, was setup, events []api.Event) bool {
	same := true
	for who, c := range s.c {
		w := was.c[who]
		same = same && slices.Equal(whole(c.Peers), whole(roomy(w.Peers, api.Peer{Id: 98}))) && slices.Equal(whole(c.Services), whole(roomy(w.Services, 98))) && slices.Equal(whole(c.Contacts), whole(roomy(w.Contacts, api.Contact{Peer: 98})))
	}
	for i, x := range whole(script) {
		if i >= len(events) {
			same = same && x.Kind == 98 && x.Data == nil
			continue
		}
		y := events[i]
		same = same && bytes.Equal(whole(x.Data), whole(roomy(y.Data, 77)))
		x.Data, y.Data = nil, nil
		same = same && x.Kind == y.Kind && x.Who == y.Who && x.A == y.A && x.B == y.B && x.C == y.C
	}
	return same
}

// spoil writes over all that was handed in.
func spoil(s setup, script []api.Event) {
	for _, x := range script {
		fill(x.Data, 0xaa)
	}
	fill(script, api.Event{Kind: 97})
	for _, c := range s.c {
		fill(c.Peers, api.Peer{Id: 97})
		fill(c.Services, 97)
		fill(c.Contacts, api.Contact{Peer: 97})
	}
}

func copyOf(l []api.Line) []api.Line {
	l = slices.Clone(l)
	for i := range l {
		l[i].Notice.Data = bytes.Clone(l[i].Notice.Data)
	}
	return l
}

// apart wants that no two lists of an answer share memory, spare room neither: one is written over behind the other.
func apart(t *testing.T, l []api.Line) {
	t.Helper()
	want := copyOf(l)
	for i := range l {
		fatalIf(t, !sameLine(l[i], want[i]), "the line %d was written over", i)
		fill(l[i].Notice.Data, 0xee)
	}
	fill(l, api.Line{Kind: 99})
}

// P15.4: what is handed in is not changed, spare room neither; written over behind the call, and what was answered before, it makes no difference to what is told.
func TestP154WrittenOver(t *testing.T) {
	t.Parallel()
	for seed := range uint64(150) {
		r := lot{rand.New(rand.NewPCG(seed, 154))}
		was := r.setup()
		events := r.script(was, 60, seed%2 == 1)
		want := was.run(t, events...)
		s, script := handed(was, events)
		var answers [2][]api.Line
		for i := range answers {
			l, no := world.Run(s.c, s.room, script)
			fatalIf(t, no != ok || !unchanged(s, script, was, events), "what was handed in is changed: %s", show(script))
			answers[i] = l
		}
		apart(t, answers[0])
		spoil(s, script)
		got := answers[1]
		fatalIf(t, len(got) != len(want) || !begins(want, got), "%s\nnot %s", text(got), text(want))
		apart(t, got)
		again, _ := world.Run(was.c, was.room, events)
		fatalIf(t, len(again) != len(want) || !begins(want, again), "%s\nnot %s", text(again), text(want))
	}
}

// Of copies of one segment, and of what is told again and again, each is a list of its own.
func TestP154EachItsOwn(t *testing.T) {
	s := usual()
	for _, script := range [][]api.Event{
		{copies(1, 3), hints(0, "hello"), ticks(9)},
		{injects(1, red(1, 1, "hello")...), boots(1), boots(1), boots(1)},
		{late(1), copies(1, 3), submits(0, 7, 50, wholeRow[:90]), ticks(9)},
	} {
		l := s.run(t, script...)
		lists := 0
		for _, x := range l {
			lists += min(len(x.Notice.Data), 1)
		}
		fatalIf(t, lists < 3, "%d lists: %s", lists, text(l))
		apart(t, l)
	}
}

// What is refused is not changed either.
func TestP154Refused(t *testing.T) {
	was, events := usual(), append(traffic(), ticks(1001))
	s, script := handed(was, events)
	s.refuses(t, 150, script...)
	fatalIf(t, !unchanged(s, script, was, events), "what was handed in is changed")
}

// gone tells whether nobody holds what a pointer points at.
func gone[T any](at weak.Pointer[T]) bool {
	for range 3 {
		runtime.GC()
	}
	return at.Value() == nil
}

// playedOnce plays a script, and tells where something lies that was handed in.
func playedOnce(t *testing.T) (block, foreign weak.Pointer[byte], peer weak.Pointer[api.Peer]) {
	s, script := handed(usual(), []api.Event{submits(0, 7, 3000, wholeRow[:5000]), injects(1, red(1, 9, "hello")...), ticks(30), boots(0), boots(1), ticks(3)})
	l, no := world.Run(s.c, s.room, script)
	fatalIf(t, no != ok || len(l) == 0, "error %d", no)
	return weak.Make(&script[0].Data[0]), weak.Make(&script[1].Data[0]), weak.Make(&s.c[0].Peers[0])
}

// What is handed in is not kept.
func TestP154NotKept(t *testing.T) {
	block, foreign, peer := playedOnce(t)
	fatalIf(t, !gone(block) || !gone(foreign) || !gone(peer), "something that was handed in is kept")
}

// Two lists that are handed in may be one and the same.
func TestP154OneList(t *testing.T) {
	s := usual().with(func(c *api.Config) { c.Id += 10 })
	s.c[1].Services, s.c[1].Peers, s.c[1].Contacts = s.c[0].Services, s.c[0].Peers, s.c[0].Contacts
	s.tells(t, `0 a error 142/0 b error 142/`, says(0, "x"), says(1, "y"))
	data := []byte("hello")
	usual().tells(t, `0 a ok 1/0 b ok 1/0 a ok 2/`, submits(0, 7, 5, data), submits(1, 7, 5, data), submits(0, 7, 5, data))
}
