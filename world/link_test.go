package world_test

import (
	"fmt"
	"testing"

	"lantern/api"
)

// Green bytes are told each time that they come: so what becomes of a segment is seen by them.
const oneHint = `0 a ok 1/1 a sent 1:1/1 a sends 1/`

func green(tick, who, number int, text string) string {
	return fmt.Sprintf(`%d %c green %d:%d service 7 at 0 %q last/`, tick, 'a'+who, 2-who, number, text)
}

func TestP152FateOfOne(t *testing.T) {
	x := hints(0, "x")
	s := usual()
	s.tells(t, oneHint+green(2, 1, 1, "x"), x, ticks(20))
	s.tells(t, oneHint, lose(), x, ticks(20))
	for n := 1; n <= 20; n++ {
		s.tells(t, oneHint+green(1+n, 1, 1, "x"), late(n), x, ticks(30))
		s.tells(t, oneHint, late(n), x, ticks(n))
		s.tells(t, oneHint+green(1+n, 1, 1, "x")+green(1+2*n, 1, 1, "x"), copies(n, 2), x, ticks(99))
		s.tells(t, oneHint+green(1+n, 1, 1, "x")+green(1+2*n, 1, 1, "x")+green(1+3*n, 1, 1, "x"), copies(n, 3), x, ticks(99))
		s.tells(t, oneHint+green(1+n, 1, 1, "x")+green(1+2*n, 1, 1, "x"), copies(n, 3), x, ticks(3*n))
	}
	s.tells(t, oneHint+green(1001, 1, 1, "x"), late(1000), x, ticks(1000), ticks(1000))
	s.tells(t, oneHint+green(1001, 1, 1, "x")+green(2001, 1, 1, "x")+green(3001, 1, 1, "x"), copies(1000, 3), x, ticks(1000), ticks(1000), ticks(1000), ticks(1000))
}

// A fate is for what is sent behind it, in whichever tick.
func TestP152FateAheadAndBehind(t *testing.T) {
	x, y := hints(0, "x"), hints(0, "y")
	s := usual()
	s.tells(t, oneHint, x, lose(), ticks(9)) // it was not sent yet
	s.tells(t, oneHint+green(2, 1, 1, "x"), x, ticks(1), lose(), ticks(9))
	s.tells(t, oneHint+green(2, 1, 1, "x")+`2 a ok 2/3 a sent 1:2/3 a sends 1/`, x, ticks(1), lose(), ticks(1), y, ticks(9))
	s.tells(t, `900 a ok 1/901 a sent 1:1/901 a sends 1/`+green(904, 1, 1, "x"), late(3), ticks(900), x, ticks(9))
}

func TestP152FewerAndMoreFates(t *testing.T) {
	x, y, z := hints(0, "x"), hints(0, "y"), hints(0, "z")
	const three = `0 a ok 1/0 a ok 2/0 a ok 3/1 a sent 1:1/1 a sent 1:2/1 a sent 1:3/1 a sends 3/`
	s := usual()
	s.tells(t, three+green(2, 1, 1, "x")+green(2, 1, 2, "y")+green(2, 1, 3, "z"), x, y, z, ticks(9))
	s.tells(t, three+green(2, 1, 2, "y")+green(2, 1, 3, "z")+green(4, 1, 1, "x"), late(3), x, y, z, ticks(9))
	s.tells(t, three+green(2, 1, 3, "z")+green(4, 1, 2, "y"), lose(), late(3), x, y, z, ticks(9))
	s.tells(t, three+green(3, 1, 3, "z")+green(4, 1, 1, "x")+green(5, 1, 3, "z")+green(7, 1, 1, "x"), copies(3, 2), lose(), copies(2, 2), x, y, z, ticks(9))
	s.tells(t, three+green(3, 1, 1, "x")+green(4, 1, 2, "y")+green(5, 1, 3, "z")+`9 a ok 4/10 a sent 1:4/10 a sends 1/`+`11 a ok 5/12 a sent 1:5/12 a sends 1/`+green(13, 1, 5, "again"),
		late(2), late(3), late(4), lose(), x, y, z, ticks(9), hints(0, "more"), ticks(2), hints(0, "again"), ticks(3))
}

// Fates are taken in the order of what is sent, by both engines and by segments of all types.
func TestP152FatesOfBoth(t *testing.T) {
	s := usual()
	const both = `0 b ok 1/0 a ok 1/1 a sent 1:1/1 a sends 1/1 b sent 2:1/1 b sends 1/`
	x, y := hints(0, "x"), hints(1, "y")
	s.tells(t, both+green(2, 1, 1, "x")+green(2, 0, 1, "y"), y, x, ticks(9))
	s.tells(t, both+green(3, 1, 1, "x"), late(2), lose(), y, x, ticks(9))
	s.tells(t, both+green(3, 0, 1, "y"), lose(), late(2), y, x, ticks(9))
	s.tells(t, both+green(2, 0, 1, "y")+green(6, 1, 1, "x"), late(5), y, x, ticks(9))
	const red = `0 a ok 1/1 a sent 1:1/1 a sends 1/2 b start 1:1 service 7/2 b red 1:1 service 7 "x"/2 b sends 1/`
	s.tells(t, red+`10 a sends 1/11 b sends 1/12 a done 1:1/12 a sends 1/`, late(1), lose(), says(0, "x"), ticks(20))                         // the report is lost
	s.tells(t, red+`3 a done 1:1/3 a sends 1/11 b sends 1/12 a sends 1/`, late(1), late(1), lose(), says(0, "x"), ticks(20))                  // its acknowledgement is
	s.tells(t, red+`3 a done 1:1/3 a sends 1/`+`4 a ok 2/5 a sent 1:2/5 a sends 1/`, says(0, "x"), ticks(4), lose(), hints(0, "y"), ticks(9)) // what comes takes none
}

// What comes in one tick comes in the order in which it was sent, over both engines.
func TestP152OrderOfComing(t *testing.T) {
	s := usual()
	a, b := hints(0, "x"), hints(1, "y")
	s.tells(t, `0 a ok 1/1 a sent 1:1/1 a sends 1/1 b ok 1/2 b sent 2:1/2 b sends 1/`+green(3, 1, 1, "x")+green(3, 0, 1, "y"), late(2), a, ticks(1), b, ticks(9))
	s.tells(t, `0 b ok 1/1 b sent 2:1/1 b sends 1/1 a ok 1/2 a sent 1:1/2 a sends 1/`+green(3, 0, 1, "y")+green(3, 1, 1, "x"), late(2), b, ticks(1), a, ticks(9))
	// Of copies each has its place by when it was sent, not by when it was to come.
	s.tells(t, `0 b ok 1/1 b sent 2:1/1 b sends 1/`+green(3, 0, 1, "y")+`3 a ok 1/4 a sent 1:1/4 a sends 1/`+green(5, 0, 1, "y")+green(5, 1, 1, "x"), copies(2, 2), b, ticks(3), a, ticks(9))
	s.tells(t, `0 a ok 1/1 a sent 1:1/1 a sends 1/1 a ok 2/2 a sent 1:2/2 a sends 1/2 a ok 3/3 a sent 1:3/3 a sends 1/`+green(4, 1, 1, "x")+green(4, 1, 2, "y")+green(4, 1, 3, "z"),
		late(3), a, ticks(1), late(2), hints(0, "y"), ticks(1), hints(0, "z"), ticks(9))
	s.tells(t, `0 a ok 1/1 a sent 1:1/1 a sends 1/1 a ok 2/2 a sent 1:2/2 a sends 1/2 a ok 3/3 a sent 1:3/3 a sends 1/`+green(4, 1, 3, "z")+green(5, 1, 2, "y")+green(6, 1, 1, "x"),
		late(5), a, ticks(1), late(3), hints(0, "y"), ticks(1), hints(0, "z"), ticks(9))
}

// What is under way stays so, whatever becomes of the engines; what comes to one that is down is gone.
func TestP152UnderWay(t *testing.T) {
	s := usual()
	x := hints(0, "x")
	const off, on = `0 b error 6/0 b down/`, `0 a ok 1/1 a sent 1:1/1 a sends 1/`
	for boot := 1; boot <= 9; boot++ { // it comes in the tick 6
		want := off + on
		if boot <= 5 {
			want += green(6, 1, 1, "x")
		}
		s.tells(t, want, append(down(1), late(5), x, ticks(boot), boots(1), ticks(20))...)
		want = off + on
		for at := 3; at <= 7; at += 2 { // copies come in these
			if boot < at {
				want += green(at, 1, 1, "x")
			}
		}
		s.tells(t, want, append(down(1), copies(2, 3), x, ticks(boot), boots(1), ticks(20))...)
	}
	s.tells(t, on+green(6, 1, 1, "x"), late(5), x, ticks(3), boots(1), boots(0), ticks(20))
	s.tells(t, on+`1 a error 6/1 a down/`+green(6, 1, 1, "x"), late(5), x, ticks(1), crash(0, 0, 0, 0), says(0, "y"), ticks(20)) // who sent it is down
	s.tells(t, off+on+`1 b error 141/`, append(down(1), x, ticks(1), hints(1, "y"), ticks(20))...)
	s.tells(t, on+`2 b error 6/2 b down/`+green(4, 1, 1, "x"), late(3), x, ticks(2), crash(1, 0, 0, 0), says(1, "y"), boots(1), ticks(9))
}

// A Send takes a fate, whether the other one is up or not.
func TestP152FateOfWhatIsGone(t *testing.T) {
	usual().tells(t, `0 b error 6/0 b down/0 a ok 1/1 a sent 1:1/1 a sends 1/2 a ok 2/3 a sent 1:2/3 a sends 1/`+green(4, 1, 2, "y"),
		append(down(1), lose(), hints(0, "x"), ticks(2), boots(1), hints(0, "y"), ticks(9))...)
}

// Blocks of many segments, each of them with a fate of its own: what is lost is sent again, and all comes.
func TestP152ManySegments(t *testing.T) {
	s := usual().with(func(c *api.Config) { c.Peers[0].Mtu, c.Rules.Retry, c.Contacts[0].Rate = 100, 20, 4 })
	script := []api.Event{submits(0, 7, 900, wholeRow[:1000]), submits(1, 7, 700, wholeRow[:700])}
	for i := range 60 {
		f := copies(1+i%7, 1+i%3)
		if i%4 == 1 {
			f = lose()
		}
		script = append(script, f)
	}
	reds := 0
	for _, l := range s.run(t, append(script, ticks(1000))...) {
		if l.Notice.Kind == api.NoteRed {
			reds++
		}
	}
	fatalIf(t, reds != 2, "%d blocks came", reds)
}
