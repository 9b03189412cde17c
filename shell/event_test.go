package shell_test

import (
	"fmt"
	"strings"
	"testing"

	"lantern/api"
	"lantern/shell"
)

// came is what is told of a text of green bytes that a sent alone, and that b received.
func came(told string) string {
	return "0 a ok 1/1 a sent 1:1/1 a sends 1/2 b green 1:1 service 1 at 0 \"" + told + "\" last/"
}

// P17.1, send: TEXT is all that stands behind the one blank that ends RED, to the line's end.
func TestP171SendText(t *testing.T) {
	for _, x := range []string{"x", " x", "x ", " x ", "  x  y  ", "\tx", "x\t", "\t \tx\t\ty \t", "#", "# x", " #", "all", "1", "a 1 all x", "tick 3", "send a 1 all x", "~", "!", " ", "  ", "\t", " \t", "x#y", "done", "0", "|"} {
		told := strings.ReplaceAll(x, "\t", `\009`)
		for _, blank := range []string{" ", "\t"} {
			tells(t, "send a 1 0"+blank+x+"/tick 2", came(told))
			red := fmt.Sprintf("0 a ok 1/1 a sent 1:1/1 a sends 1/2 b start 1:1 service 1/2 b red 1:1 service 1 \"%s\"/2 b sends 1/", told)
			tells(t, "send a 1 all"+blank+x+"/tick 2", red)
			tells(t, fmt.Sprintf("send a 1 %d%s%s/tick 2", len(x), blank, x), red)
			tells(t, fmt.Sprintf("send a 1 %d%s%s/tick 2", len(x)+1, blank, x), "0 a error 143/")
			tells(t, " \tsend\t \ta  1\t\t0"+blank+x+"/tick 2", came(told))
		}
	}
	tells(t, `send a 1 0 "/tick 2`, came(`\"`))
	tells(t, `send a 1 0 \/tick 2`, came(`\\`))
	tells(t, `send a 1 0 a\"b"\\/tick 2`, came(`a\\\"b\"\\\\`))
	fatalIf(t, do(t, "send a 1 0 /\ntick 2") != strings.ReplaceAll(lines(came("|")), "|", "/"), "a /: %s", do(t, "send a 1 0 /\ntick 2"))
	tells(t, "send a 1 2 abc/tick 2", `0 a ok 1/1 a sent 1:1/1 a sends 2/2 b start 1:1 service 1/2 b red 1:1 service 1 "ab"/2 b green 1:1 service 1 at 2 "c" last/2 b sends 1/`)
	tells(t, "send b 1 2 abc/tick 2", `0 b ok 1/1 b sent 2:1/1 b sends 2/2 a start 2:1 service 1/2 a red 2:1 service 1 "ab"/2 a green 2:1 service 1 at 2 "c" last/2 a sends 1/`)
	tells(t, "send a 1 "+most+" abc", "0 a error 143/")
}

// A TEXT of no bytes, with and without the blank that ends RED: a block that may not be, but a line that may.
func TestP171SendNothing(t *testing.T) {
	for _, red := range []string{"0", "1", "all", most} {
		for _, end := range []string{"", " ", "\t"} {
			tells(t, "send a 1 "+red+end, "0 a error 143/")
			tells(t, "send b 1 "+red+end+"/", "0 b error 143/")
			tells(t, "send b 1 "+red+end+"/tick 3/", "0 b error 143/")
			noneAt(t, "2", "send a 1 "+red+end+"/x")
		}
	}
	tells(t, "send a 1 0  /tick 2", came(" "))
	tells(t, "send a 1 0\t\t/tick 2", came(`\009`))
}

// A TEXT of MaxBlock bytes is sent; of one more it is an event that may not be, whatever RED is, but a line that may.
func TestP171SendLong(t *testing.T) {
	t.Parallel()
	for _, red := range []string{"0", "all", "65536"} {
		text := strings.Repeat("0123456 ", mostBlock/8)
		got := plays(t, "set a queue 65536/open a 0 99 1000/send a 1 "+red+" "+text+"/tick 2")
		fatalIf(t, !strings.HasPrefix(got, "0 a ok 1\n1 a sent 1:1\n1 a sends 67\n"), "%s", short(got))
		fatalIf(t, strings.Count(got, "0123456")+strings.Count(got, "6 ") < mostBlock/8, "%s", short(got))
		for _, more := range []string{"x", " ", "\t", strings.Repeat("y", 90000)} {
			tells(t, "send a 1 "+red+" "+text+more, "error 150/")
			tells(t, "tick 1/send b 1 "+red+" "+text+more+"/tick 1/", "error 150/")
			noneAt(t, "2", "send a 1 "+red+" "+text+more+"/x")
			tells(t, "set a mtu 1/send a 1 "+red+" "+text+more, "error 140/")
		}
	}
	tells(t, "send a 1 all "+strings.Repeat(" ", mostBlock+1), "error 150/")
	tells(t, "send a 1 all "+strings.Repeat(" ", mostBlock), "0 a ok 1/")
	tells(t, "send a 1 all "+strings.Repeat("x", mostBytes-13), "error 150/")
	tells(t, "send a 1 all "+strings.Repeat("x", mostBytes-12), "error 2/")
}

// fill: the byte i is (SEED + 7 i) modulo 256.
func TestP171Fill(t *testing.T) {
	t.Parallel()
	tells(t, "fill a 1 0 5 65/tick 2", came("AHOV]"))
	for _, seed := range []string{"0", "1", "65", "255", "256", "257", "321", "65536", "1099511627776", "4611686018427387648", most} {
		n := 0
		for _, c := range seed {
			n = (n*10 + int(c-'0')) % 256
		}
		var told strings.Builder
		for i := range 300 {
			told.WriteString(quotes[(n+7*i)%256])
		}
		want := lines("0 a ok 1/1 a sent 1:1/1 a sends 1/2 b green 1:1 service 1 at 0 ") + `"` + told.String() + "\" last\n"
		got := do(t, "fill a 1 0 300 "+seed+"\ntick 2")
		fatalIf(t, got != want, "the seed %s: %s\nnot %s", seed, got, want)
	}
	tells(t, "fill a 1 0 0 0", "0 a error 143/")
	tells(t, "fill a 1 all 0 7", "0 a error 143/")
	tells(t, "fill b 1 1 0 7", "0 b error 143/")
	tells(t, "fill a 1 all 1 7", "0 a ok 1/")
	tells(t, "fill a 1 3 3 7", "0 a ok 1/")
	tells(t, "fill a 1 4 3 7", "0 a error 143/")
	tells(t, "fill a 1 "+most+" 3 7", "0 a error 143/")
	tells(t, "fill a 1 2 3 65/tick 2", `0 a ok 1/1 a sent 1:1/1 a sends 2/2 b start 1:1 service 1/2 b red 1:1 service 1 "AH"/2 b green 1:1 service 1 at 2 "O" last/2 b sends 1/`)
	for _, red := range []string{"0", "1", "all", "65536"} {
		tells(t, "fill a 1 "+red+" 65536 0", "0 a ok 1/")
		for _, size := range []string{"65537", "65538", "131072", "4294967296", most} {
			noneAt(t, "1", "fill a 1 "+red+" "+size+" 0")
			noneAt(t, "3", "tick 1/tick 1/fill b 1 "+red+" "+size+" 0/tick 0")
		}
	}
	tells(t, "fill a 1 65537 65536 0", "0 a error 143/")
	got := plays(t, "open a 0 9 1000/fill a 1 all 65536 3/tick 2")
	var told strings.Builder
	for i := range mostBlock {
		told.WriteString(quotes[(3+7*i)%256])
	}
	fatalIf(t, !strings.Contains(got, "2 b red 1:1 service 1 \""+told.String()+"\"\n"), "%s", short(got))
}

// Many short lines that stand for great blocks, as many as there can be: what comes of them is told in good time. (The model would take longer.)
func TestP171FillOften(t *testing.T) {
	line := "fill a 1 all 65536 0\n"
	for n, want := range map[int]string{mostBytes / len(line): "error 2\n", 2001: "error 2\n"} {
		got := shell.Do(strings.Repeat(line, n))
		fatalIf(t, got != want, "%d lines: %s", n, short(got))
	}
	got := shell.Do(strings.Repeat(line, 9000) + "x")
	fatalIf(t, got != "error 170 at line 9001\n", "%s", short(got))
	got = shell.Do(strings.Repeat(line, 2000))
	fatalIf(t, strings.Count(got, "\n") != 2000 || strings.Count(got, "0 a error 144\n") != 1993, "%s", short(got))
}

// hex: pairs of digits, at least one.
func TestP171Hex(t *testing.T) {
	for _, x := range []string{"", " ", "0", "000", "00 ", "0g", "g0", "gg", "0G", "0A", "A0", "FF", "aF", "Ff", "0x00", "0x", "00 00", "-1", "+1", "1.", "..", "0:", "/0", "0`", "@0", "a", "abc", "all", "#", "##", "\"\"", strings.Repeat("f", 99)} {
		if x != "00 " {
			noneAt(t, "1", "hex a "+strings.ReplaceAll(x, "/", "|"))
		}
	}
	noneAt(t, "1", "hex a")
	noneAt(t, "1", "hex a\t")
	tells(t, "hex a 00", "0 a error 20/")
	tells(t, "hex b 00 ", "0 b error 20/")
	tells(t, "hex b\t\t00\t", "0 b error 20/")
	tells(t, "hex a 10", "0 a error 21/")
	tells(t, "hex a 0a0000", "0 a error 21/")
	tells(t, "hex a 0a", "0 a error 21/")
	tells(t, "hex a 0900000000", "0 a error 23/")
	x := api.Segment{Type: api.GreenLast, Session: api.Session{Origin: 2, Number: 5}, Service: 1, Offset: 0x5a, Data: []byte{0xde, 0xad, 0xbe, 0xef, 0x12, 0x34, 0x56, 0x78, 0x90, 0xca}}
	digits := hexOf(t, x)
	fatalIf(t, !strings.Contains(digits, "deadbeef1234567890ca"), "%s", digits)
	tells(t, "hex a "+digits, `0 a green 2:5 service 1 at 90 "\222\173\190\239\0184Vx\144\202" last/0 a ok/`)
	tells(t, "hex b "+digits, "0 b error 146/")
	noneAt(t, "1", "hex a "+strings.ToUpper(digits))
	noneAt(t, "1", "hex a "+digits[1:])
	noneAt(t, "1", "hex a "+digits+"0")
	for b := range 256 {
		y := x
		y.Data = []byte{byte(b), byte(b * 3)}
		fatalIf(t, do(t, "hex a "+hexOf(t, y)) != "0 a green 2:5 service 1 at 90 "+byteText(y.Data)+" last\n0 a ok\n", "the byte %d", b)
	}
	tells(t, "hex a "+strings.Repeat("00", mostBlock), "0 a error 2/")
	tells(t, "hex a "+strings.Repeat("00", mostBlock+1), "error 150/")
	tells(t, "hex a "+strings.Repeat("00", 8192), "0 a error 23/")
	noneAt(t, "1", "hex a "+strings.Repeat("0", 199993))
	noneAt(t, "2", "hex a "+strings.Repeat("00", mostBlock+1)+"/x")
}

// cancel: by whom, and whose.
func TestP171Cancel(t *testing.T) {
	tells(t, "send a 1 all x/cancel a a 1", "0 a ok 1/0 a off 1:1 why 0/0 a ok/")
	tells(t, "send a 1 all x/cancel a b 1", "0 a ok 1/0 a error 145/")
	tells(t, "send a 1 all x/cancel b a 1", "0 a ok 1/0 b error 145/")
	tells(t, "send b 1 all x/cancel b b 1", "0 b ok 1/0 b off 2:1 why 0/0 b ok/")
	tells(t, "send b 1 all x/cancel b b 2", "0 b ok 1/0 b error 145/")
	tells(t, "send b 1 all x/cancel b b 0", "0 b ok 1/0 b error 145/")
	tells(t, "open a 0 9 1/fill a 1 all 3000 0/tick 2/cancel b a 1/tick 1", "0 a ok 1/1 a sends 1/2 b start 1:1 service 1/2 a sends 1/2 b gone 1:1 why 0/2 b ok/3 a sends 1/3 b sends 1/")
	tells(t, "set a id 44/send a 1 all x/cancel a a 1", "0 a ok 1/0 a off 44:1 why 0/0 a ok/")
	tells(t, "cancel a b "+most, "0 a error 145/")
	noneAt(t, "1", "cancel a 1")
	noneAt(t, "1", "cancel a c 1")
	noneAt(t, "1", "cancel a a all")
	noneAt(t, "1", "cancel a a 1:1")
}

// crash: behind so many acts, with so many bytes that stay, and with `done` the act is done; boot.
func TestP171Crash(t *testing.T) {
	tells(t, "crash a 0 0/send a 1 all x/boot a/tick 1", "0 a error 6/0 a down/")
	tells(t, "crash a 1 0/send a 1 all x/boot a/tick 1", "0 a error 6/0 a down/")
	tells(t, "crash a 1 0 done/send a 1 all x/boot a/tick 1", "0 a error 6/0 a down/1 a sends 1/")
	tells(t, "crash a 0 0 done/send a 1 all x/boot a/tick 1", "0 a error 6/0 a down/")
	tells(t, "crash a 0 100 done/send a 1 all x/boot a/tick 1", "0 a error 6/0 a down/1 a sends 1/")
	tells(t, "crash a 0 100/send a 1 all x/boot a/tick 1", "0 a error 6/0 a down/")
	tells(t, "crash a 1 100/send a 1 all x/boot a/tick 1", "0 a error 6/0 a down/1 a sends 1/")
	tells(t, "crash a 2 0/send a 1 all x/send a 1 all y", "0 a ok 1/0 a error 6/0 a down/")
	tells(t, "crash b 0 0/send a 1 all x", "0 a ok 1/")
	tells(t, "crash b 0 0/send b 1 all x/send b 1 all y/cancel b b 1/hex b 00/boot b/boot b/boot a", "0 b error 6/0 b down/0 b error 141/0 b error 141/0 b error 141/")
	tells(t, "crash a "+most+" "+most+"/send a 1 all x", "0 a ok 1/")
	tells(t, "crash a "+most+" "+most+"  done /send a 1 all x", "0 a ok 1/")
	tells(t, "set a room 0/boot a/boot b", "0 a error 5/0 a error 5/")
}

// lose, late and copy: the fates of what is sent behind them, one by one.
func TestP171Fates(t *testing.T) {
	tells(t, "send a 1 0 x/tick 2", came("x"))
	tells(t, "lose/send a 1 0 x/tick 5", "0 a ok 1/1 a sent 1:1/1 a sends 1/")
	tells(t, "late 1/send a 1 0 x/tick 5", came("x"))
	tells(t, "late 3/send a 1 0 x/tick 9", strings.ReplaceAll(came("x"), "2 b", "4 b"))
	tells(t, "copy 1 1/send a 1 0 x/tick 9", came("x"))
	green := func(tick int) string {
		return fmt.Sprintf("%d b green 1:1 service 1 at 0 \"x\" last/", tick)
	}
	const sent = "0 a ok 1/1 a sent 1:1/1 a sends 1/"
	tells(t, "copy 2 3/send a 1 0 x/tick 9", sent+green(3)+green(5)+green(7))
	tells(t, "copy 3 2/send a 1 0 x/tick 9", sent+green(4)+green(7))
	tells(t, "late 1000/send a 1 0 x/tick 1000/tick 1", sent+green(1001))
	tells(t, "lose/late 2/copy 1 2/send a 9 0 x/send a 1 0 y/send a 1 0 z/tick 4", "0 a ok 1/0 a ok 2/0 a ok 3/1 a sent 1:1/1 a sent 1:2/1 a sent 1:3/1 a sends 3/2 b green 1:3 service 1 at 0 \"z\" last/3 b green 1:2 service 1 at 0 \"y\" last/3 b green 1:3 service 1 at 0 \"z\" last/")
	noneAt(t, "1", "late")
	noneAt(t, "1", "late all")
	noneAt(t, "1", "copy 1")
	noneAt(t, "1", "copy 1 1 1")
	noneAt(t, "1", "late 1 1")
}

// tick: so many.
func TestP171Tick(t *testing.T) {
	for n := 1; n <= 1000; n += 111 {
		tells(t, fmt.Sprintf("tick %d/send a 1 0 x", n), fmt.Sprintf("%d a ok 1/", n))
		tells(t, fmt.Sprintf("tick %d/tick %d/send b 1 0 x", n, n), fmt.Sprintf("%d b ok 1/", 2*n))
	}
}
