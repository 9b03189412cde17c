package world_test

import (
	"strings"
	"testing"

	"lantern/api"
	"lantern/segment"
)

// seg is a segment's bytes.
func seg(x api.Segment) []byte {
	b, no := segment.Print(x)
	if no != ok {
		panic("no segment")
	}
	return b
}

// red is a whole red block of one segment.
func red(origin, number int, text string) []byte {
	return seg(api.Segment{Type: api.RedLast, Session: session(origin, number), Service: 7, Data: []byte(text), Check: 1})
}

// Both engines are booted at the tick 0, which tells nothing; a script without events tells nothing more.
func TestP152Begins(t *testing.T) {
	usual().tells(t, ``)
	usual().tells(t, ``, ticks(1000))
	usual().tells(t, `0 a ok 1/0 b ok 1/0 b ok 2/0 a ok 2/`, says(0, "x"), says(1, "x"), says(1, "x"), says(0, "x"))
}

func TestP152SubmitUp(t *testing.T) {
	usual().tells(t, `0 a ok 1/0 a ok 2/`, submits(0, 7, 1, []byte("x")), submits(0, 0, 0, []byte("x")))
	usual().tells(t, `0 b ok 1/0 b ok 2/`, submits(1, top, 3, []byte("xyz")), submits(1, 7, 1, []byte("xyz")))
	usual().tells(t, `0 a error 143/0 a error 143/0 b error 143/0 a ok 1/`, submits(0, 7, 2, []byte("x")), submits(0, 7, 0, nil), submits(1, 7, top, []byte("x")), says(0, "x"))
	usual().tells(t, `0 a ok 1/0 a ok 2/0 a ok 3/0 a ok 4/0 a error 144/0 b ok 1/`, says(0, "1"), says(0, "2"), hints(0, "3"), says(0, "4"), says(0, "5"), says(1, "6"))
	usual().with(func(c *api.Config) { c.Queue = 1 }).tells(t, `0 a error 144/0 a ok 1/`, submits(0, 7, most, wholeRow), says(0, "x"))
}

// A Submit is for the other one, whether it is a peer or not.
func TestP152SubmitOther(t *testing.T) {
	s := usual().at(0, func(c *api.Config) { c.Peers[0].Id, c.Contacts[0].Peer = 5, 5 })
	s.tells(t, `0 a error 142/0 b ok 1/`, says(0, "x"), says(1, "x"))
	s.tells(t, `0 b ok 1/1 b sent 2:1/1 b sends 1/10 b sends 1/19 b sends 1/28 b sends 1/37 b off 2:1 why 2/37 b sends 1/`, says(1, "x"), ticks(40))
	s = usual().at(0, func(c *api.Config) {
		c.Peers = append([]api.Peer{{Id: 5, Mtu: 80, Timeout: 1}}, c.Peers...)
		c.Contacts = append([]api.Contact{{Peer: 5, To: 100, Rate: 100}}, c.Contacts...)
	})
	s.tells(t, `0 a ok 1/1 a sent 1:1/1 a sends 1/2 b start 1:1 service 7/2 b red 1:1 service 7 "x"/2 b sends 1/3 a done 1:1/3 a sends 1/`, says(0, "x"), ticks(40))
}

// The engines' Ids may be any.
func TestP152AnyIds(t *testing.T) {
	for _, ids := range [][2]int{{1, 2}, {2, 1}, {top, 1}, {top - 1, top}, {7, 7000}} {
		s := usual()
		for who := range s.c {
			s = s.at(who, func(c *api.Config) { c.Id, c.Peers[0].Id, c.Contacts[0].Peer = ids[who], ids[1-who], ids[1-who] })
		}
		got := s.run(t, says(0, "x"), says(1, "y"), ticks(10))
		done := 0
		for _, l := range got {
			if n := l.Notice; n.Kind == api.NoteRed || n.Kind == api.NoteDone {
				done++
				fatalIf(t, n.Session != session(ids[l.Who], 1) && n.Kind == api.NoteDone || n.Session != session(ids[1-l.Who], 1) && n.Kind == api.NoteRed, "%+v", l)
			}
		}
		fatalIf(t, done != 4, "%v: %s", ids, text(got))
	}
}

func TestP152CancelUp(t *testing.T) {
	s := usual()
	s.tells(t, `0 a ok 1/0 a off 1:1 why 0/0 a ok/0 a error 145/`, says(0, "x"), cancels(0, 0, 1), cancels(0, 0, 1))
	s.tells(t, `0 b ok 1/0 b off 2:1 why 0/0 b ok/`, hints(1, "x"), cancels(1, 1, 1))
	s.tells(t, `0 a ok 1/0 b ok 1/0 a error 145/0 b error 145/0 b error 145/0 b off 2:1 why 0/0 b ok/`, says(0, "x"), says(1, "y"), cancels(0, 1, 1), cancels(1, 0, 1), cancels(1, 1, 2), cancels(1, 1, 1))
	s.tells(t, `0 a error 145/0 a error 145/0 b error 145/`, cancels(0, 0, 0), cancels(0, 1, top), cancels(1, 1, top))
}

// Who receives can cancel, too: of two segments of a block one came.
func TestP152CancelImport(t *testing.T) {
	big := strings.Repeat("x", 1500)
	usual().tells(t, `0 a ok 1/1 a sent 1:1/1 a sends 2/2 b start 1:1 service 7/2 b gone 1:1 why 0/2 b ok/3 b sends 1/4 a off 1:1 why 0/4 a sends 1/`, late(1), lose(), says(0, big), ticks(2), cancels(1, 0, 1), ticks(3))
	usual().tells(t, `0 b ok 1/1 b sent 2:1/1 b sends 2/2 a start 2:1 service 7/2 a gone 2:1 why 0/2 a ok/3 a sends 1/4 b off 2:1 why 0/4 b sends 1/`, late(1), lose(), says(1, big), ticks(2), cancels(0, 1, 1), ticks(3))
}

func TestP152InjectUp(t *testing.T) {
	s := usual()
	s.tells(t, `0 a error 20/0 b error 21/0 a error 2/`, injects(0), injects(1, 255), injects(0, make([]byte, 8193)...))
	s.tells(t, `0 b start 1:1 service 7/0 b red 1:1 service 7 "x"/0 b ok/1 b sends 1/`, injects(1, red(1, 1, "x")...), ticks(1))
	s.tells(t, `0 a start 2:9 service 7/0 a red 2:9 service 7 "xy"/0 a ok/0 a ok/1 a sends 1/`, injects(0, red(2, 9, "xy")...), injects(0, red(2, 9, "xy")...), ticks(1))
	s.tells(t, `0 a error 146/0 b error 146/0 b error 146/`, injects(0, red(1, 1, "x")...), injects(1, red(2, 1, "x")...), injects(1, red(3, 1, "x")...))
	s.at(1, func(c *api.Config) { c.Peers[0].Id, c.Contacts[0].Peer = 5, 5 }).tells(t, `0 b error 142/0 b error 142/`, injects(1, red(1, 1, "x")...), injects(1))
}

// down lets an engine go down as it is told something, from the tick 0 on.
func down(who int) []api.Event { return []api.Event{crash(who, 0, 0, 0), says(who, "x")} }

func TestP152AllDown(t *testing.T) {
	for who, name := range []string{"a", "b"} {
		line := func(text string) string { return strings.ReplaceAll(text, "@", name) }
		script := append(down(who), says(who, "y"), cancels(who, who, 1), cancels(who, 1-who, 1), injects(who), injects(who, red(2-who, 1, "x")...), lose(), crash(who, 0, 0, 1), ticks(3), hints(who, "y"))
		usual().tells(t, line(`0 @ error 6/0 @ down/0 @ error 141/0 @ error 141/0 @ error 141/0 @ error 141/0 @ error 141/3 @ error 141/`), script...)
		script = append(script, boots(who), hints(who, "z"))
		usual().tells(t, line(`0 @ error 6/0 @ down/0 @ error 141/0 @ error 141/0 @ error 141/0 @ error 141/0 @ error 141/3 @ error 141/3 @ ok 1/`), script...)
	}
}

// The other one goes on while one is down; what is sent to that one is gone.
func TestP152OneDown(t *testing.T) {
	usual().tells(t, `0 a error 6/0 a down/0 b ok 1/1 b sent 2:1/1 b sends 1/10 b sends 1/`, append(down(0), says(1, "y"), ticks(12))...)
	usual().tells(t, `0 b error 6/0 b down/0 a ok 1/1 a sent 1:1/1 a sends 1/10 a sends 1/`, append(down(1), says(0, "y"), ticks(12))...)
	usual().tells(t, `0 b error 6/0 b down/0 a error 6/0 a down/`, append(append(down(1), down(0)...), ticks(1000))...)
}

// In a tick all comes first, in the order in which it was sent; then engine 0, then engine 1.
func TestP152TickOrder(t *testing.T) {
	usual().tells(t, `0 b ok 1/0 a ok 1/`+
		`1 a sent 1:1/1 a sends 1/1 b sent 2:1/1 b sends 1/`+
		`2 b start 1:1 service 7/2 b red 1:1 service 7 "x"/2 a start 2:1 service 7/2 a red 2:1 service 7 "y"/2 a sends 1/2 b sends 1/`+
		`3 b done 2:1/3 a done 1:1/3 a sends 1/3 b sends 1/`, says(1, "y"), says(0, "x"), ticks(9))
}

// An engine that is booted later begins with the tick that it is; its links are open as they are then.
func TestP152BootTick(t *testing.T) {
	s := usual().at(0, func(c *api.Config) { c.Contacts[0].From, c.Contacts[0].To = 10, 11 })
	const came = `11 b start 1:1 service 7/11 b red 1:1 service 7 "x"/11 b sends 1/`
	s.tells(t, `0 a ok 1/10 a sent 1:1/10 a sends 1/`+came+`12 a done 1:1/`, says(0, "x"), ticks(19))
	s.tells(t, `0 a ok 1/10 a sends 1/`+came+`12 a done 1:1/`, says(0, "x"), ticks(6), boots(0), ticks(13))
	s.tells(t, `0 a error 6/0 a down/9 a ok 1/10 a sent 1:1/10 a sends 1/`+came, append(down(0), ticks(9), boots(0), says(0, "x"), ticks(2))...)
	s.tells(t, `0 a error 6/0 a down/10 a ok 1/`, append(down(0), ticks(10), boots(0), says(0, "x"), ticks(9))...)
}

// A DoCrash counts the acts from then on: those of a Submit are two.
func TestP152ArmCounts(t *testing.T) {
	s := usual()
	s.tells(t, `0 a ok 1/0 a ok 2/0 a error 6/0 a down/`, says(0, "1"), crash(0, 2, 0, 0), says(0, "2"), says(0, "3"))
	s.tells(t, `0 a ok 1/0 a error 6/0 a down/`, says(0, "1"), crash(0, 1, 0, 0), says(0, "2"))
	s.tells(t, `0 a ok 1/0 a ok 2/0 a error 6/0 a down/`, crash(0, 2, 0, 0), says(0, "1"), crash(0, 3, 0, 0), says(0, "2"), says(0, "3"))
	s.tells(t, `0 a ok 1/0 a ok 2/`, crash(0, 4, 0, 0), says(0, "1"), says(0, "2"))
	s.tells(t, `0 a ok 1/0 b ok 1/0 b error 6/0 b down/`, crash(1, 2, 0, 1), says(0, "1"), says(1, "2"), says(1, "3")) // of its own disk
	s.tells(t, `0 a ok 1/0 a ok 2/0 b ok 1/`, crash(0, top, 0, 1), crash(1, top, top, 0), says(0, "1"), says(0, "2"), says(1, "3"))
}

// A DoBoot disarms.
func TestP152BootDisarms(t *testing.T) {
	usual().tells(t, `0 a ok 1/0 b ok 1/`, crash(0, 0, 0, 0), crash(1, 0, 0, 0), boots(0), boots(1), says(0, "1"), says(1, "2"))
}

// What goes down in a tick tells nothing else of it, and nothing of it goes out: it would have written that NoteDone was told.
func TestP153DownInATick(t *testing.T) {
	const begins = `0 a ok 1/1 a sent 1:1/1 a sends 1/2 b start 1:1 service 7/2 b red 1:1 service 7 "x"/2 b sends 1/`
	s := usual()
	s.tells(t, begins+`3 a done 1:1/3 a sends 1/`, says(0, "x"), ticks(2), crash(0, 3, 0, 0), ticks(6))
	s.tells(t, begins+`3 a done 1:1/3 a down/`, says(0, "x"), ticks(2), crash(0, 2, 0, 0), ticks(6))
	s.tells(t, begins+`2 a ok 2/3 a done 1:1/3 a down/`, says(0, "x"), ticks(2), says(0, "y"), crash(0, 2, 0, 1), ticks(6))
	s.tells(t, begins+`2 a ok 2/3 a done 1:1/3 a down/8 a done 1:1 replayed/9 a sends 1/10 b start 1:2 service 7/10 b red 1:2 service 7 "y"/10 b sends 1/`,
		says(0, "x"), ticks(2), says(0, "y"), crash(0, 2, 0, 1), ticks(6), boots(0), ticks(2))
}

// What goes down as a segment comes tells nothing of that; what comes behind it in that tick is gone.
func TestP153DownAsItComes(t *testing.T) {
	two := []api.Event{says(0, "x"), says(0, "y"), crash(1, 0, 0, 0), ticks(2)}
	usual().tells(t, `0 a ok 1/0 a ok 2/1 a sent 1:1/1 a sent 1:2/1 a sends 2/2 b down/`, two...)
	usual().tells(t, `0 a ok 1/0 a ok 2/1 a sent 1:1/1 a sent 1:2/1 a sends 2/2 b down/10 a sends 2/`+
		`11 b start 1:1 service 7/11 b red 1:1 service 7 "x"/11 b start 1:2 service 7/11 b red 1:2 service 7 "y"/11 b sends 2/`, append(two, boots(1), ticks(9))...)
	usual().tells(t, `0 a ok 1/0 a ok 2/1 a sent 1:1/1 a sent 1:2/1 a sends 2/2 b start 1:1 service 7/2 b red 1:1 service 7 "x"/2 b down/`, says(0, "x"), says(0, "y"), crash(1, 2, 0, 0), ticks(2))
}

// A DoInject and a DoCancel on which the power goes.
func TestP153DownOnACall(t *testing.T) {
	usual().tells(t, `0 b error 6/0 b down/0 b error 141/`, crash(1, 0, 0, 0), injects(1, red(1, 1, "x")...), injects(1, red(1, 1, "x")...))
	usual().tells(t, `0 b error 6/0 b down/0 b red 1:1 service 7 "x" replayed/1 b sends 1/`, crash(1, 1, 0, 1), injects(1, red(1, 1, "x")...), boots(1), ticks(1))
	usual().tells(t, `0 a ok 1/0 a error 6/0 a down/0 a off 1:1 why 0 replayed/`, says(0, "x"), crash(0, 0, top, 1), cancels(0, 0, 1), boots(0))
	usual().tells(t, `0 a ok 1/0 a error 6/0 a down/1 a sends 1/`, says(0, "x"), crash(0, 0, 0, 1), cancels(0, 0, 1), boots(0), ticks(1))
}

// A DoBoot of an engine that is up tells no LineDown, and takes what was not safe.
func TestP153BootUp(t *testing.T) {
	const calm = `0 a ok 1/1 a sent 1:1/1 a sends 1/2 b start 1:1 service 7/2 b red 1:1 service 7 "x"/2 b sends 1/3 a done 1:1/3 a sends 1/`
	usual().tells(t, calm+`4 a done 1:1 replayed/`, says(0, "x"), ticks(4), boots(0)) // that it was told was written, but not safe
	usual().tells(t, calm, says(0, "x"), ticks(4), crash(0, top, 1000, 0), boots(0))
	usual().tells(t, calm+`4 a done 1:1 replayed/4 a done 1:1 replayed/`, says(0, "x"), ticks(4), boots(0), boots(0))
	usual().tells(t, calm+`3 b red 1:1 service 7 "x" replayed/4 b sends 1/5 a sends 1/`, says(0, "x"), ticks(3), boots(1), ticks(3))
}
