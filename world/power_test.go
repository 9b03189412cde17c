package world_test

import (
	"fmt"
	"strings"
	"testing"

	"lantern/api"
	"lantern/record"
)

// size is how many bytes records have in a journal.
func size(l ...api.Record) int {
	b, no := record.Frame(l)
	if no != ok {
		panic("no records")
	}
	return len(b)
}

func recBoot(id, n int) api.Record {
	return api.Record{Kind: api.RecBoot, Session: session(id, 0), Size: n}
}

// recOpen is that of a text that is red.
func recOpen(origin, number int, text string) api.Record {
	return api.Record{Kind: api.RecOpen, Session: session(origin, number), Peer: 3 - origin, Service: 7, Red: len(text), Size: len(text), Data: []byte(text)}
}

// Keep: so many bytes that were not safe stay. A submit whose bytes all stay has its number, and is sent.
func TestP152Keep(t *testing.T) {
	s := usual()
	n := size(recOpen(1, 1, "x"))
	for keep := range n + 20 {
		want := `0 a error 6/0 a down/0 a ok 1/1 a sent 1:1/1 a sends 1/`
		if keep >= n {
			want = `0 a error 6/0 a down/0 a ok 2/1 a sent 1:2/1 a sends 2/`
		}
		y := []api.Event{says(0, "y"), ticks(1)}
		s.tells(t, want, append([]api.Event{crash(0, 0, keep, 1), says(0, "x"), boots(0)}, y...)...)
		s.tells(t, want, append([]api.Event{crash(0, 1, keep, 0), says(0, "x"), boots(0)}, y...)...) // it was appended, and not synced
		for _, other := range []int{0, n - 1, n, top} {                                              // the last DoCrash counts, wherever it stands
			s.tells(t, want, append([]api.Event{crash(0, 5, other, 1), crash(0, 0, keep, 1), says(0, "x"), boots(0)}, y...)...)
			s.tells(t, want, append([]api.Event{crash(0, 0, other, 1), says(0, "x"), crash(0, 0, keep, 0), boots(0)}, y...)...)
			s.tells(t, want, append([]api.Event{crash(0, 0, keep, 1), says(0, "x"), crash(1, 9, other, 0), boots(1), boots(0)}, y...)...) // the other one's does not
		}
	}
	s.tells(t, `0 a error 6/0 a down/0 a ok 2/`, crash(0, 0, top, 1), says(0, "x"), boots(0), says(0, "y"))
	s.tells(t, `0 a error 6/0 a down/0 a ok 1/`, crash(0, 0, top, 0), says(0, "x"), boots(0), says(0, "y")) // it was not done
	s.tells(t, `0 a error 6/0 a down/0 a ok 2/`, crash(0, 1, 0, 1), says(0, "x"), boots(0), says(0, "y"))   // it was synced
}

// Keep is 0 without a DoCrash, and behind a DoBoot.
func TestP152NoKeep(t *testing.T) {
	s := usual()
	const calm = `0 a ok 1/1 a sent 1:1/1 a sends 1/2 b start 1:1 service 7/2 b red 1:1 service 7 "x"/2 b sends 1/3 a done 1:1/3 a sends 1/`
	const more = `4 a ok 2/5 a sent 1:2/5 a sends 1/6 b start 1:2 service 7/6 b red 1:2 service 7 "y"/6 b sends 1/7 a done 1:2/7 a sends 1/`
	x, y := []api.Event{says(0, "x"), ticks(4)}, []api.Event{says(0, "y"), ticks(4)}
	play := func(l ...[]api.Event) (all []api.Event) {
		for _, x := range l {
			all = append(all, x...)
		}
		return all
	}
	keeps := []api.Event{crash(0, top, 1000, 0), boots(0)}
	s.tells(t, calm+more+`8 a done 1:2 replayed/`, play(x, y, []api.Event{boots(0)})...) // that 1:1 was told is safe by the submit behind it
	s.tells(t, calm+more, play(x, y, keeps)...)
	s.tells(t, calm+more+`8 a done 1:2 replayed/`, play(x, keeps, y, []api.Event{boots(0)})...)
	s.tells(t, calm+more+`8 a done 1:2 replayed/`, play(x, keeps, y, []api.Event{crash(1, top, 1000, 0), boots(0)})...)
	s.tells(t, calm+`4 a done 1:1 replayed/`+more, play(x, []api.Event{boots(0)}, y, keeps)...)
}

// traffic is what both send to one another, with a green part, too.
func traffic() []api.Event {
	return []api.Event{submits(0, 7, 150, wholeRow[:180]), says(1, "hello"), late(2), copies(1, 2)}
}

// gentle is a setup in which all comes in the end, whatever is lost: short timers, and much that is tried again; the journal is written anew often.
func gentle() setup {
	return usual().with(func(c *api.Config) {
		c.Peers[0].Mtu, c.Peers[0].Timeout, c.Contacts[0].Rate = 80, 4, 3
		c.Rules, c.Idle, c.Every, c.Compact = api.Rules{Retry: 30, Cycles: 100}, 200, 1, 150
	})
}

// ended is how often each session was told in each way, in all that was told.
func ended(l []api.Line) map[string]int {
	n := map[string]int{}
	for _, x := range l {
		if x.Kind == api.LineNotice {
			w := strings.Fields(noticeWords(x.Notice))
			n[w[0]+" "+w[1]]++
		}
	}
	return n
}

// goneDown tells whether an engine went down.
func goneDown(l []api.Line) bool {
	for _, x := range l {
		if x.Kind == api.LineDown {
			return true
		}
	}
	return false
}

// The power goes at each act of either disk, done or not, with whatever stays; an engine that is booted behind that goes on, so that all comes.
func TestP152CrashAtEachAct(t *testing.T) {
	t.Parallel()
	s := gentle()
	for who := range 2 {
		for done := range 2 {
			for acts := 0; ; acts++ {
				any := false
				for keep := range 100 { // never are more bytes than that not safe
					script := append(traffic(), ticks(1), crash(who, acts, keep, done), ticks(12))
					any = goneDown(s.run(t, script...)) || any // and stays down
					script = append(script, boots(who), ticks(60))
					l := s.run(t, script...)
					n := ended(l)
					fatalIf(t, n["red 1:1"] == 0 || n["red 2:1"] == 0 || n["done 1:1"] == 0 || n["done 2:1"] == 0, "%s tells %s", show(script), text(l))
				}
				if !any {
					fatalIf(t, acts < 8, "only %d acts", acts)
					break
				}
			}
		}
	}
}

// The power goes at each act, and at each act of what comes behind the boot.
func TestP152CrashTwice(t *testing.T) {
	t.Parallel()
	s := gentle()
	downs := 0
	for first := range 14 {
		for second := range 9 {
			for who := range 4 {
				a, b, done := who%2, who/2, (first+second)%2
				script := append(traffic(), ticks(1), crash(a, first, 11*second, done), ticks(5), boots(a), crash(b, second, 7*first, 1-done), ticks(9), boots(b), ticks(60))
				l := s.run(t, script...)
				for _, x := range l {
					if x.Kind == api.LineDown {
						downs++
					}
				}
				n := ended(l) // a sender that forgot which reports it had acknowledged may never hear that all came
				fatalIf(t, n["red 1:1"] == 0 || n["red 2:1"] == 0 || n["gone 1:1"]+n["gone 2:1"]+n["off 1:1"]+n["off 2:1"] > 0, "%s tells %s", show(script), text(l))
			}
		}
	}
	fatalIf(t, downs < 400, "the power went %d times", downs)
}

// Two DoCrashes ahead of a DoBoot: the power goes by the last one that stands ahead of where it goes; what stays is by the last of all.
func TestP152CrashAnew(t *testing.T) {
	t.Parallel()
	s := gentle()
	for first := range 8 {
		for second := range 8 {
			for n := range 4 {
				s.run(t, append(traffic(), crash(0, first, 50, n%2), ticks(2), crash(0, second, 9*n, n/2), ticks(7), boots(0), ticks(30))...)
				s.run(t, append(traffic(), crash(1, first, 50, n%2), crash(1, second, 9*n, n/2), ticks(7), boots(1), ticks(30))...)
				s.run(t, append(traffic(), crash(1, first, 50, n%2), ticks(2), crash(1, second, 9*n, n/2), ticks(30))...)
			}
		}
	}
}

// A boot that finds no room answers that; no LineDown is told, and the engine is down.
func TestP153BootRefused(t *testing.T) {
	n := size(recBoot(1, 1))
	s := usual()
	for _, room := range []int{0, 1, n - 1} {
		s.rooms(room, 1000).tells(t, `0 a error 5/`)
		s.rooms(1000, room).tells(t, `0 b error 5/`)
		s.rooms(room, room).tells(t, `0 a error 5/0 b error 5/`)
		s.rooms(room, room).tells(t, `0 a error 5/0 b error 5/0 a error 141/5 b error 141/5 b error 141/5 a error 5/5 b error 5/5 b error 5/`,
			says(0, "x"), ticks(5), injects(1), cancels(1, 1, 1), boots(0), crash(1, 0, 9, 1), boots(1), boots(1))
		s.rooms(1000, room).tells(t, `0 b error 5/0 a ok 1/1 a sent 1:1/1 a sends 1/10 a sends 1/`, says(0, "x"), ticks(12))
	}
	s.rooms(n, n).tells(t, ``)
}

// Each boot writes: the room is for so many.
func TestP153BootRefusedLater(t *testing.T) {
	n := size(recBoot(1, 1))
	for room := range 6*n + 1 {
		want, script := "", []api.Event{}
		if room < n {
			want = `0 b error 5/`
		}
		for i := 2; i <= 6; i++ {
			script = append(script, ticks(1), boots(1))
			if room < i*n {
				want += fmt.Sprintf(`%d b error 5/`, i-1)
			}
		}
		usual().rooms(1000, room).tells(t, want, script...)
	}
}

// The room is just enough for a submit, or one byte less; then it is told, and the engine goes on.
func TestP153SubmitRefused(t *testing.T) {
	n := size(recBoot(1, 1), recOpen(1, 1, "hello"))
	usual().rooms(n, 1000).tells(t, `0 a ok 1/`, says(0, "hello"))
	usual().rooms(n-1, 1000).tells(t, `0 a error 5/`, says(0, "hello"))
	usual().rooms(n-1, 1000).tells(t, `0 a error 5/0 a ok 1/0 a error 5/1 a sent 1:1/1 a sends 1/2 b start 1:1 service 7/2 b red 1:1 service 7 "hell"/2 b sends 1/`, says(0, "hello"), says(0, "hell"), says(0, "x"), ticks(2))
}

// What comes finds no room: nothing is told of it; what would be said to it is not said.
func TestP153NoRoomForWhatComes(t *testing.T) {
	n := size(recBoot(2, 1), api.Record{Kind: api.RecRed, Session: session(1, 1), Service: 7, Red: 1, Size: 1, Data: []byte("x")}, api.Record{Kind: api.RecDone, Session: session(1, 1)})
	const sent = `0 a ok 1/1 a sent 1:1/1 a sends 1/`
	usual().rooms(1000, n).tells(t, sent+`2 b start 1:1 service 7/2 b red 1:1 service 7 "x"/2 b sends 1/`, says(0, "x"), ticks(2))
	usual().rooms(1000, n-1).tells(t, sent+`10 a sends 1/`, says(0, "x"), ticks(12))
	usual().rooms(1000, n-1).tells(t, `0 b error 5/`, injects(1, red(1, 1, "x")...), ticks(3))
	usual().rooms(1000, n).tells(t, `0 b start 1:1 service 7/0 b red 1:1 service 7 "x"/0 b ok/1 b sends 1/`, injects(1, red(1, 1, "x")...), ticks(3))
}

// A tick finds no room for what is owed: that is no line, but behind a boot it is told again.
func TestP153NoRoomForATick(t *testing.T) {
	told := api.Record{Kind: api.RecTold, Session: session(1, 1)}
	n := size(recBoot(1, 1), recOpen(1, 1, "x"), api.Record{Kind: api.RecEnd, Session: session(1, 1)})
	const calm = `0 a ok 1/1 a sent 1:1/1 a sends 1/2 b start 1:1 service 7/2 b red 1:1 service 7 "x"/2 b sends 1/3 a done 1:1/3 a sends 1/`
	script := []api.Event{says(0, "x"), ticks(6), crash(0, top, top, 0), boots(0)}
	for room := n; room < n+size(told); room++ {
		usual().rooms(room, 1000).tells(t, calm, script[:2]...)
		usual().rooms(room, 1000).tells(t, calm+`6 a error 5/`, script...) // nor is there room for the boot
	}
	usual().rooms(n+size(told)+size(recBoot(1, 2)), 1000).tells(t, calm, script...)
	usual().rooms(n+size(recBoot(1, 2)), 1000).tells(t, calm+`6 a done 1:1 replayed/`, says(0, "x"), ticks(6), boots(0))
}

// Rooms of every size, at either end or at both: the power goes, too.
func TestP153EveryRoom(t *testing.T) {
	t.Parallel()
	for room := range 420 {
		for n, rooms := range [][2]int{{room, wide}, {wide, room}, {room, room}} {
			s := gentle().rooms(rooms[0], rooms[1])
			s.run(t, append(traffic(), ticks(25), boots(0), ticks(1), says(0, "more"), cancels(1, 1, 1), boots(1), ticks(30))...)
			s.run(t, append(traffic(), crash(n%2, room%9, room%31, room%2), ticks(25), boots(n%2), says(n%2, "more"), ticks(30), boots(1-n%2))...)
		}
	}
}
