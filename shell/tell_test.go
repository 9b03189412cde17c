package shell_test

import (
	"fmt"
	"math"
	"strings"
	"testing"

	"lantern/api"
	"lantern/shell"
)

func session(origin, number int) api.Session { return api.Session{Origin: origin, Number: number} }

// wants wants that a line is told as these words, behind its tick and its engine.
func wants(t *testing.T, x api.Line, words string) {
	t.Helper()
	for _, tick := range []int{0, 7, 20000} {
		for who, name := range []string{"a", "b"} {
			x.Tick, x.Who = tick, who
			want := fmt.Sprintf("%d %s %s\n", tick, name, words)
			got := shell.Tell([]api.Line{x})
			fatalIf(t, got != want, "%q, not %q", got, want)
			fatalIf(t, asText([]api.Line{x}) != want, "the model has %q", asText([]api.Line{x}))
		}
	}
}

// P17.2: each kind of line.
func TestP172Lines(t *testing.T) {
	wants(t, api.Line{Kind: api.LineAnswer}, "ok")
	wants(t, api.Line{Kind: api.LineAnswer, Number: 1}, "ok 1")
	wants(t, api.Line{Kind: api.LineAnswer, Number: api.MaxNum}, "ok "+most)
	for no := range api.Errno(200) {
		if no != api.OK {
			wants(t, api.Line{Kind: api.LineAnswer, Err: no}, fmt.Sprintf("error %d", int(no)))
			wants(t, api.Line{Kind: api.LineAnswer, Err: no, Number: 5}, fmt.Sprintf("error %d", int(no)))
		}
	}
	wants(t, api.Line{Kind: api.LineDown}, "down")
	for _, n := range []int{0, 1, 2, 10, 1000, math.MaxInt} {
		wants(t, api.Line{Kind: api.LineSent, Number: n}, fmt.Sprintf("sends %d", n))
	}
	fatalIf(t, shell.Tell(nil) != "" || shell.Tell([]api.Line{}) != "", "no lines are a text")
}

// P17.2: each kind of notice, Replayed and not.
func TestP172Notices(t *testing.T) {
	s := session(12, 345)
	for _, x := range []struct {
		notice api.Notice
		words  string
	}{
		{api.Notice{Kind: api.NoteStart, Service: 6}, "start 12:345 service 6"},
		{api.Notice{Kind: api.NoteStart}, "start 12:345 service 0"},
		{api.Notice{Kind: api.NoteGreen, Service: 6, Offset: 7, Data: []byte("hi there")}, `green 12:345 service 6 at 7 "hi there"`},
		{api.Notice{Kind: api.NoteGreen, Service: 6, Offset: 7, Data: []byte("hi there"), Last: true}, `green 12:345 service 6 at 7 "hi there" last`},
		{api.Notice{Kind: api.NoteGreen, Last: true}, `green 12:345 service 0 at 0 "" last`},
		{api.Notice{Kind: api.NoteGreen, Data: []byte{}}, `green 12:345 service 0 at 0 ""`},
		{api.Notice{Kind: api.NoteRed, Service: 6, Data: []byte("last")}, `red 12:345 service 6 "last"`},
		{api.Notice{Kind: api.NoteRed}, `red 12:345 service 0 ""`},
		{api.Notice{Kind: api.NoteGone, How: 5}, "gone 12:345 why 5"},
		{api.Notice{Kind: api.NoteGone, Service: 4}, "gone 12:345 why 0"},
		{api.Notice{Kind: api.NoteOff, How: 255}, "off 12:345 why 255"},
		{api.Notice{Kind: api.NoteOff}, "off 12:345 why 0"},
		{api.Notice{Kind: api.NoteSent}, "sent 12:345"},
		{api.Notice{Kind: api.NoteDone}, "done 12:345"},
	} {
		x.notice.Session = s
		wants(t, api.Line{Kind: api.LineNotice, Notice: x.notice}, x.words)
		x.notice.Replayed = true
		wants(t, api.Line{Kind: api.LineNotice, Notice: x.notice}, x.words+" replayed")
		x.notice.Session = session(api.MaxNum, api.MaxNum-1)
		wants(t, api.Line{Kind: api.LineNotice, Notice: x.notice}, strings.Replace(x.words, "12:345", most+":4611686018427387902", 1)+" replayed")
	}
}

// P17.2: BYTES, each byte from 0 to 255, alone and among others.
func TestP172Bytes(t *testing.T) {
	told := map[byte]string{0: `\000`, 1: `\001`, 9: `\009`, 10: `\010`, 13: `\013`, 31: `\031`, 32: " ", 33: "!", '"': `\"`, '#': "#", '/': "/", '0': "0", '\\': `\\`, '~': "~", 127: `\127`, 128: `\128`, 199: `\199`, 200: `\200`, 255: `\255`}
	for i := range 256 {
		b := byte(i)
		want := fmt.Sprintf(`\%d%d%d`, i/100, i/10%10, i%10)
		switch {
		case b == '"' || b == '\\':
			want = `\` + string(rune(b))
		case b >= 32 && b <= 126:
			want = string(rune(b))
		}
		fatalIf(t, told[b] != "" && told[b] != want, "%d is %s", b, want)
		for _, kind := range []int{api.NoteGreen, api.NoteRed} {
			at := map[int]string{api.NoteGreen: "green 1:2 service 3 at 0 ", api.NoteRed: "red 1:2 service 3 "}[kind]
			x := api.Line{Kind: api.LineNotice, Notice: api.Notice{Kind: kind, Session: session(1, 2), Service: 3, Data: []byte{b}}}
			wants(t, x, at+`"`+want+`"`)
			x.Notice.Data = []byte{'4', b, b, '2', b}
			wants(t, x, at+`"4`+want+want+"2"+want+`"`)
		}
		got := do(t, fmt.Sprintf("fill a 1 0 1 %d\ntick 2", i))
		fatalIf(t, got != lines(came(""))[:len(lines(came("")))-len("\" last\n")]+want+"\" last\n", "the byte %d through the shell: %s", i, got)
	}
	got := plays(t, "fill a 1 all 256 0/tick 2")
	for i := range 256 {
		fatalIf(t, !strings.Contains(got, quotes[i]), "the byte %d is not told: %s", i, got)
	}
	x := []byte("é\u2028\xff")
	wants(t, api.Line{Kind: api.LineNotice, Notice: api.Notice{Kind: api.NoteRed, Session: session(1, 2), Data: x}}, `red 1:2 service 0 "\195\169\226\128\168\255"`)
}

// Lines stand one behind the other, each with a byte 10 behind it.
func TestP172Many(t *testing.T) {
	all := []api.Line{
		{Tick: 0, Who: 1, Kind: api.LineAnswer, Number: 3},
		{Tick: 4, Who: 0, Kind: api.LineNotice, Notice: api.Notice{Kind: api.NoteRed, Session: session(2, 3), Service: 9, Data: []byte("a\nb"), Replayed: true}},
		{Tick: 4, Who: 1, Kind: api.LineDown},
		{Tick: 5, Who: 0, Kind: api.LineSent, Number: 12},
	}
	want := []string{"0 b ok 3\n", "4 a red 2:3 service 9 \"a\\010b\" replayed\n", "4 b down\n", "5 a sends 12\n"}
	for i := range all {
		for j := i; j <= len(all); j++ {
			got := shell.Tell(all[i:j])
			fatalIf(t, got != strings.Join(want[i:j], ""), "%q", got)
		}
	}
}

// Every kind of line and of notice as it comes of a text.
func TestP172Played(t *testing.T) {
	const sent = "0 a ok 1/1 a sent 1:1/1 a sends 1/"
	red := `2 b start 1:1 service 1/2 b red 1:1 service 1 "x"/2 b sends 1/`
	tells(t, "send a 1 all x/tick 2/boot b", sent+red+`2 b red 1:1 service 1 "x" replayed/`)
	tells(t, "send a 1 all x/tick 3/boot a", sent+red+"3 a done 1:1/3 a sends 1/3 a done 1:1 replayed/")
	tells(t, "send a 1 all x/cancel a a 1/boot a", "0 a ok 1/0 a off 1:1 why 0/0 a ok/0 a off 1:1 why 0 replayed/")
	tells(t, "send a 9 all x/tick 3/boot a", sent+"2 b sends 1/3 a off 1:1 why 1/3 a sends 1/3 a off 1:1 why 1 replayed/")
	tells(t, "open a 0 9 1/fill a 1 all 3000 0/tick 2/cancel b a 1/boot b/boot b", "0 a ok 1/1 a sends 1/2 b start 1:1 service 1/2 a sends 1/2 b gone 1:1 why 0/2 b ok/2 b gone 1:1 why 0 replayed/2 b gone 1:1 why 0 replayed/")
	tells(t, "set a mtu 80/fill a 1 0 80 70/tick 2", `0 a ok 1/1 a sent 1:1/1 a sends 2/2 b green 1:1 service 1 at 0 "`+told(70, 0, 73)+`"/2 b green 1:1 service 1 at 73 "`+told(70, 73, 80)+`" last/`)
	tells(t, "cancel a a 1/hex b 00", "0 a error 145/0 b error 20/")
}

// told is the bytes of a block from one place to another as they are told.
func told(seed, from, to int) string {
	var b strings.Builder
	for i := from; i < to; i++ {
		b.WriteString(quotes[(seed+7*i)%256])
	}
	return b.String()
}
