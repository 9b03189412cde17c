package farm_test

import (
	"slices"
	"testing"

	"lantern/api"
	"lantern/farm"
	"lantern/world"
)

// wrong are numbers of workers that may not be.
var wrong = []int{minInt, -16, -1, 0, 17, 18, 64, top, maxInt}

// many are n scripts, of all that are played.
func many(n int) []api.Script {
	all := played()
	var l []api.Script
	for i := range n {
		l = append(l, all[i*i%len(all)])
	}
	return l
}

func TestP161NoScripts(t *testing.T) {
	for _, l := range [][]api.Script{nil, {}, make([]api.Script, 0, 5)} {
		for workers := 1; workers <= 16; workers++ {
			wants(t, l, workers, nil, ok)
		}
		for _, workers := range wrong {
			wants(t, l, workers, nil, 160)
		}
	}
}

func TestP161OneScript(t *testing.T) {
	for workers := 1; workers <= 16; workers++ {
		for _, s := range played() {
			plays(t, workers, s)
		}
	}
}

// What is told of a block that comes, line by line, by the words of chapter 15.
func TestP161WhatIsTold(t *testing.T) {
	s := api.Session{Origin: 3, Number: 1}
	notice := func(tick, who int, n api.Notice) api.Line {
		n.Session = s
		return api.Line{Tick: tick, Who: who, Kind: api.LineNotice, Notice: n}
	}
	sent := func(tick, who int) api.Line { return api.Line{Tick: tick, Who: who, Kind: api.LineSent, Number: 1} }
	block := []api.Line{
		{Kind: api.LineAnswer, Number: 1},
		notice(1, 0, api.Notice{Kind: api.NoteSent}),
		sent(1, 0),
		notice(2, 1, api.Notice{Kind: api.NoteStart, Service: 5}),
		notice(2, 1, api.Notice{Kind: api.NoteRed, Service: 5, Data: []byte("hello there")}),
		sent(2, 1),
		notice(3, 0, api.Notice{Kind: api.NoteDone}),
		sent(3, 0),
	}
	full := []api.Line{{Who: 0, Kind: api.LineAnswer, Err: 5}, {Who: 1, Kind: api.LineAnswer, Err: 5}}
	noRoom := with(calm(), func(s *api.Script) { s.Room = [2]int{} })
	for workers := 1; workers <= 16; workers++ {
		wants(t, []api.Script{talk()}, workers, [][]api.Line{block}, ok)
		wants(t, []api.Script{step(), talk(), noRoom, calm(), talk()}, workers, [][]api.Line{nil, block, full, nil, block}, ok)
	}
}

// Each of Configs, Room and Events is the script's own.
func TestP161ConfigsRoomEvents(t *testing.T) {
	base := talk()
	others := []api.Script{
		base,
		with(base, func(s *api.Script) { s.Configs[0].Contacts = nil }),
		with(base, func(s *api.Script) { s.Configs[1].Services = nil }),
		with(base, func(s *api.Script) { s.Configs[0], s.Configs[1] = s.Configs[1], s.Configs[0] }),
		with(base, func(s *api.Script) { s.Room[0] = 0 }),
		with(base, func(s *api.Script) { s.Room[1] = 0 }),
		with(base, func(s *api.Script) { s.Events[0].Who = 1 }),
		with(base, func(s *api.Script) { s.Events = s.Events[1:] }),
	}
	var told [][]api.Line
	for _, s := range others {
		l, _ := world.Run(s.Configs, s.Room, s.Events)
		fatalIf(t, slices.ContainsFunc(told, func(x []api.Line) bool { return sameLines(x, l) }), "two of the scripts tell the same")
		told = append(told, l)
	}
	for workers := 1; workers <= 16; workers++ {
		wants(t, others, workers, told, ok)
	}
}

func TestP161TooManyScripts(t *testing.T) {
	for _, workers := range []int{1, 2, 5, 15, 16} {
		plays(t, workers, many(63)...)
		plays(t, workers, many(64)...)
		for _, n := range []int{65, 66, 128, 1000} {
			refuses(t, 2, workers, many(n)...)
			refuses(t, 2, workers, make([]api.Script, n)...)
		}
	}
}

func TestP161Workers(t *testing.T) {
	bad := refusals()[0].script
	for _, n := range []int{1, 2, 15, 16, 17, 40, 64} {
		for _, workers := range []int{1, 2, 15, 16} {
			plays(t, workers, many(n)...)
		}
		for _, workers := range wrong {
			refuses(t, 160, workers, many(n)...)
		}
	}
	for _, workers := range wrong {
		for _, x := range refusals() {
			refuses(t, 160, workers, x.script)
		}
		refuses(t, 160, workers, append(many(63), bad)...)
		refuses(t, 160, workers, append([]api.Script{bad}, many(63)...)...)
	}
}

// Both are wrong: it is told that there are too many.
func TestP161BothWrong(t *testing.T) {
	bad := refusals()[0].script
	for _, workers := range wrong {
		refuses(t, 2, workers, many(65)...)
		refuses(t, 2, workers, make([]api.Script, 65)...)
		refuses(t, 2, workers, slices.Repeat([]api.Script{bad}, 1000)...)
	}
}

// A script that is refused, alone, and at each place among others.
func TestP161Refused(t *testing.T) {
	for _, x := range refusals() {
		_, no := world.Run(x.script.Configs, x.script.Room, x.script.Events)
		fatalIf(t, no != x.no, "error %d, not %d", no, x.no)
		for workers := 1; workers <= 16; workers++ {
			refuses(t, x.no, workers, x.script)
			refuses(t, x.no, workers, x.script, x.script, x.script)
			refuses(t, x.no, workers, slices.Repeat([]api.Script{x.script}, 64)...)
			for at := range 10 {
				refuses(t, x.no, workers, slices.Insert(played(), at, x.script)...)
			}
		}
	}
}

// Of several that are refused, the first in the order of the row is told.
func TestP161FirstRefused(t *testing.T) {
	all, others := refusals(), played()
	for _, x := range all {
		for _, y := range all {
			for _, workers := range []int{1, 2, 3, 16} {
				refuses(t, x.no, workers, x.script, y.script)
				refuses(t, x.no, workers, others[2], x.script, others[1], y.script, others[4])
				refuses(t, x.no, workers, append(many(40), x.script, y.script, y.script, y.script, talk())...)
			}
		}
	}
}

// A script that is refused at once stands ahead of nothing that takes longer to be refused.
func TestP161SlowToRefuse(t *testing.T) {
	slow := with(calm(), func(s *api.Script) {
		s.Events = append(slices.Repeat([]api.Event{ticks(10)}, 1999), api.Event{Kind: 99})
	})
	quick := refusals()[0]
	for range 50 {
		refuses(t, 150, 16, append([]api.Script{slow}, slices.Repeat([]api.Script{quick.script}, 63)...)...)
		refuses(t, quick.no, 16, append([]api.Script{quick.script}, slices.Repeat([]api.Script{slow}, 63)...)...)
		refuses(t, 150, 2, long(), slow, quick.script, quick.script)
	}
}

// rows goes through all rows of at most so many scripts.
func rows(alphabet []api.Script, length int, visit func(l []api.Script)) {
	var fill func(l []api.Script)
	fill = func(l []api.Script) {
		visit(l)
		if len(l) == length {
			return
		}
		for _, x := range alphabet {
			fill(append(slices.Clip(l), x))
		}
	}
	fill(nil)
}

// Every short row of scripts.
func TestP161EveryRow(t *testing.T) {
	t.Parallel()
	alphabet := []api.Script{calm(), step(), talk()}
	for _, x := range refusals()[:4] {
		alphabet = append(alphabet, x.script)
	}
	rows(alphabet, 4, func(l []api.Script) {
		for _, workers := range []int{1, 2, 5} {
			told, no := oneByOne(l, workers)
			wants(t, l, workers, told, no)
		}
	})
}

// Rows by chance, with and without scripts that are refused.
func TestP161ByChance(t *testing.T) {
	t.Parallel()
	count := map[api.Errno]int{}
	for seed := range uint64(300) {
		r := chance(seed, 161)
		l := r.row(r.among(0, 1, 2, 5, 20, 63, 64, 65), r.among(0, 0, 5, 40))
		workers := r.among(0, 1, 2, 3, 8, 15, 16, 16, 17, 1+r.IntN(16))
		told, no := oneByOne(l, workers)
		wants(t, l, workers, told, no)
		count[no]++
	}
	for _, no := range []api.Errno{0, 1, 2, 140, 150, 160} {
		fatalIf(t, count[no] < 5, "error %d: %d times; %v", no, count[no], count)
	}
}

// W5: a nil list and an empty one are the same.
func TestW5EmptyLists(t *testing.T) {
	empty := with(calm(), func(s *api.Script) {
		s.Events = make([]api.Event, 0, 4)
		for who := range s.Configs {
			s.Configs[who].Services, s.Configs[who].Contacts = []int{}, []api.Contact{}
		}
	})
	none := with(empty, func(s *api.Script) {
		s.Events = nil
		for who := range s.Configs {
			s.Configs[who].Services, s.Configs[who].Contacts = nil, nil
		}
	})
	l, no := farm.Run([]api.Script{empty, none}, 2)
	fatalIf(t, no != ok || len(l) != 2 || len(l[0])+len(l[1]) != 0, "error %d, %s", no, show(l))
}
