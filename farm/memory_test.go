package farm_test

import (
	"bytes"
	"reflect"
	"runtime"
	"slices"
	"testing"
	"weak"

	"lantern/api"
	"lantern/farm"
)

// roomy is a copy of a list with spare room, all of it marked.
func roomy[T any](l []T, mark T) []T {
	out := slices.Repeat([]T{mark}, len(l)+3)
	copy(out, l)
	return out[:len(l)]
}

// whole is a list with its spare room.
func whole[T any](l []T) []T { return l[:cap(l)] }

// fill writes over a list, and its spare room.
func fill[T any](l []T, mark T) {
	for i := range whole(l) {
		whole(l)[i] = mark
	}
}

// rebuilt is a row of scripts, each list of it made anew.
func rebuilt(l []api.Script, row func([]api.Script) []api.Script, list func(*api.Config), events func([]api.Event) []api.Event, data func([]byte) []byte) []api.Script {
	l = row(l)
	for i := range l {
		s := &l[i]
		for who := range s.Configs {
			list(&s.Configs[who])
		}
		s.Events = events(s.Events)
		for j := range s.Events {
			s.Events[j].Data = data(s.Events[j].Data)
		}
	}
	return l
}

// handed is a copy of a row, each list of it with spare room.
func handed(l []api.Script) []api.Script {
	return rebuilt(l,
		func(l []api.Script) []api.Script { return roomy(l, api.Script{Room: [2]int{98, 98}}) },
		func(c *api.Config) {
			c.Peers, c.Services, c.Contacts = roomy(c.Peers, api.Peer{Id: 98}), roomy(c.Services, 98), roomy(c.Contacts, api.Contact{Peer: 98})
		},
		func(l []api.Event) []api.Event { return roomy(l, api.Event{Kind: 98}) },
		func(b []byte) []byte { return roomy(b, 77) })
}

// laidOpen is a copy of a row with the spare room of each list as a part of it.
func laidOpen(l []api.Script) []api.Script {
	return rebuilt(l,
		func(l []api.Script) []api.Script { return slices.Clone(whole(l)) },
		func(c *api.Config) {
			c.Peers, c.Services, c.Contacts = slices.Clone(whole(c.Peers)), slices.Clone(whole(c.Services)), slices.Clone(whole(c.Contacts))
		},
		func(l []api.Event) []api.Event { return slices.Clone(whole(l)) },
		func(b []byte) []byte { return bytes.Clone(whole(b)) })
}

// spoil writes over all that was handed in.
func spoil(l []api.Script) {
	for _, s := range l {
		for _, c := range s.Configs {
			fill(c.Peers, api.Peer{Id: 97})
			fill(c.Services, 97)
			fill(c.Contacts, api.Contact{Peer: 97})
		}
		for _, x := range s.Events {
			fill(x.Data, 0xaa)
		}
		fill(s.Events, api.Event{Kind: 97})
	}
	fill(l, api.Script{Room: [2]int{-1, -1}})
}

func copyOf(told [][]api.Line) [][]api.Line {
	told = slices.Clone(told)
	for i := range told {
		told[i] = slices.Clone(told[i])
		for j := range told[i] {
			told[i][j].Notice.Data = bytes.Clone(told[i][j].Notice.Data)
		}
	}
	return told
}

// apart wants that no two lists of an answer share memory, spare room neither: one is written over behind the other, and each must be as it was till its turn comes.
func apart(t *testing.T, told [][]api.Line) {
	t.Helper()
	want := copyOf(told)
	for i, l := range told {
		for j := range l {
			fatalIf(t, !sameLine(l[j], want[i][j]), "script %d, line %d was written over", i, j)
			fill(l[j].Notice.Data, 0xee)
		}
	}
	for i, l := range told {
		for j := range l {
			fatalIf(t, l[j].Kind == 99, "script %d, line %d was written over", i, j)
		}
		fill(l, api.Line{Kind: 99})
	}
	fill(told, nil)
}

// P16.3: what is handed in is not changed, spare room neither; written over behind the call, and what was answered before, it makes no difference to what is told.
func TestP163WrittenOver(t *testing.T) {
	t.Parallel()
	for seed := range uint64(60) {
		r := chance(seed, 163)
		was := r.row(r.among(1, 4, 20, 64), 0)
		want, _ := oneByOne(was, 1)
		l := handed(was)
		before := laidOpen(l)
		var answers [3][][]api.Line
		for i := range answers {
			told, no := farm.Run(l, 1+r.IntN(16))
			fatalIf(t, no != ok || !reflect.DeepEqual(laidOpen(l), before), "error %d, or what was handed in is changed", no)
			answers[i] = told
		}
		apart(t, answers[0])
		fatalIf(t, !reflect.DeepEqual(laidOpen(l), before), "what was handed in lies in what was answered")
		spoil(l)
		for _, told := range answers[1:] {
			fatalIf(t, !sameRow(told, want), "%s\nnot %s", show(told), show(want))
			apart(t, told)
		}
		wants(t, was, 1+r.IntN(16), want, ok)
	}
}

// What is refused is not changed either.
func TestP163Refused(t *testing.T) {
	for _, x := range refusals() {
		l := handed(append(played(), x.script, talk()))
		before := laidOpen(l)
		for _, workers := range []int{0, 1, 2, 16, 17} {
			_, no := farm.Run(l, workers)
			fatalIf(t, no == ok || !reflect.DeepEqual(laidOpen(l), before), "error %d, or what was handed in is changed", no)
		}
	}
	l := handed(many(65))
	before := laidOpen(l)
	refuses(t, 2, 1, l...)
	fatalIf(t, !reflect.DeepEqual(laidOpen(l), before), "what was handed in is changed")
}

// Of one script that stands in a row again and again, and of scripts that have lists in common, each is told in lists of its own.
func TestP163EachItsOwn(t *testing.T) {
	data := []byte("one list of bytes for all of them")
	says := func(who, red int) api.Event {
		return api.Event{Kind: api.DoSubmit, Who: who, A: 5, B: red, Data: data}
	}
	base := script(says(0, 33), says(1, 0), says(0, 10), copies(1, 3), copies(1, 2), ticks(9), boots(1), boots(0))
	other := base
	other.Configs[1].Every = 1
	shorter := base
	shorter.Events = base.Events[:6]
	for _, l := range [][]api.Script{
		{base, base},
		slices.Repeat([]api.Script{base}, 64),
		{base, other, shorter, base, talk(), other},
	} {
		for _, workers := range []int{1, 2, 16} {
			told, no := farm.Run(l, workers)
			want, _ := oneByOne(l, workers)
			fatalIf(t, no != ok || !sameRow(told, want), "error %d, %s", no, show(told))
			lists := 0
			for _, x := range told[0] {
				lists += min(len(x.Notice.Data), 1)
			}
			fatalIf(t, lists < 4, "%d lists of bytes: %s", lists, show(told))
			apart(t, told)
			fatalIf(t, string(data) != "one list of bytes for all of them", "what was handed in is changed")
		}
	}
}

// gone tells whether nobody holds what a pointer points at.
func gone[T any](at weak.Pointer[T]) bool {
	for range 3 {
		runtime.GC()
	}
	return at.Value() == nil
}

// held is where something lies that was handed in, and that was answered.
type held struct {
	script weak.Pointer[api.Script]
	peer   weak.Pointer[api.Peer]
	event  weak.Pointer[api.Event]
	data   weak.Pointer[byte]
	list   weak.Pointer[[]api.Line]
	line   weak.Pointer[api.Line]
}

func playedOnce(t *testing.T) held {
	l := handed([]api.Script{calm(), script(submits(0, 40, string(make([]byte, 500))), ticks(9), boots(0), boots(1), ticks(3)), long()})
	told := run(t, l, 3)
	s := &l[1]
	return held{weak.Make(s), weak.Make(&s.Configs[0].Peers[0]), weak.Make(&s.Events[0]), weak.Make(&s.Events[0].Data[0]), weak.Make(&told[0]), weak.Make(&told[1][0])}
}

// Neither what is handed in is kept, nor what was answered.
func TestP163NotKept(t *testing.T) {
	h := playedOnce(t)
	fatalIf(t, !gone(h.script) || !gone(h.peer) || !gone(h.event) || !gone(h.data), "something that was handed in is kept")
	fatalIf(t, !gone(h.list) || !gone(h.line), "something that was answered is kept")
}
