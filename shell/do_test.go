package shell_test

import (
	"fmt"
	"strings"
	"testing"

	"lantern/shell"
)

// P17.1: a text of no bytes, of MaxLine bytes and of one more, whatever stands in it.
func TestP171Long(t *testing.T) {
	tells(t, "", "")
	for _, x := range []struct{ piece, answer string }{
		{"#", ""},
		{" ", ""},
		{"\t", ""},
		{"\n", ""},
		{"# \n", ""},
		{"x", "error 170 at line 1\n"},
		{"\x00", "error 170 at line 1\n"},
		{"\xff", "error 170 at line 1\n"},
		{"é", "error 170 at line 1\n"},
		{"tick 0\n", "error 2\n"}, // too many events, which is said ahead of what they are
		{"serve a 1\n", "error 140\n"},
		{"hex b 00", "error 170 at line 1\n"},
		{"#\n#\n#\nlose 1\n", "error 170 at line 4\n"},
	} {
		text := strings.Repeat(x.piece, mostBytes/len(x.piece))
		text += strings.Repeat(" ", mostBytes-len(text))
		fatalIf(t, len(text) != mostBytes, "%d bytes", len(text))
		fatalIf(t, do(t, text) != x.answer, "%q: %s", x.piece, short(shell.Do(text)))
		for _, more := range []string{" ", "\n", "#", "x", "\x00", "\xff"} {
			fatalIf(t, do(t, text+more) != "error 2\n" || do(t, more+text) != "error 2\n", "one more byte: %s", short(shell.Do(text+more)))
		}
		fatalIf(t, do(t, text+text) != "error 2\n", "twice as many")
		do(t, text[1:])
		do(t, text[:mostBytes-1])
	}
	hello := "send a 1 all hello\ntick 3\n"
	fatalIf(t, do(t, hello+strings.Repeat("#", mostBytes-len(hello))) != shell.Do(hello), "a long remark behind it")
	fatalIf(t, do(t, hello+strings.Repeat("\n", mostBytes-len(hello))) != shell.Do(hello), "lines behind it")
	fatalIf(t, do(t, hello+strings.Repeat("\n", mostBytes-len(hello)+1)) != "error 2\n", "a line too many behind it")
	fatalIf(t, do(t, strings.Repeat("\n", mostBytes-1)+"x") != "error 170 at line 200000\n", "the last line that there can be")
	fatalIf(t, do(t, strings.Repeat("\n", mostBytes)) != "", "lines alone")
}

// A line of no words, and a remark, say nothing, wherever they stand; a byte 10 at the end of the text makes no difference.
func TestP171SaysNothing(t *testing.T) {
	nothing := []string{"", " ", "\t", " \t ", "#", "# x", "#x", "##", " #", "\t#tick", "  # send a 1 all x", "#/ #/#", "# tick 0", "#\t", "/", "//", "///  /\t/", "#~", `#"\`}
	for _, x := range nothing {
		tells(t, x, "")
		tells(t, x+"/", "")
		tells(t, x+"/"+x, "")
		k := fmt.Sprint(2 + strings.Count(x, "/"))
		noneAt(t, k, x+"/x")
		noneAt(t, k, x+"/x/")
		tells(t, x+"/send a 9 0 x/"+x+"/tick 1/"+x, "0 a ok 1/1 a sent 1:1/1 a sends 1/")
	}
	for _, x := range nothing {
		for _, y := range nothing {
			tells(t, x+"/"+y, "")
		}
	}
	for _, x := range []string{"tick 1 # x", "tick # 1", "tick 1 #", "tick 1#", "x#", "x #", "tick# 1", "lose #", "boot a#", "boot # a"} {
		noneAt(t, "1", x)
	}
	tells(t, "send a 9 all # x/tick 1", "0 a ok 1/1 a sent 1:1/1 a sends 1/")
	for _, x := range []string{"tick 3", "boot a", "lose", "send a 1 all x", "set a id 7", "serve b 4", "crash a 0 0 done", "hex a 00"} {
		got := do(t, x)
		for _, behind := range []string{"\n", "\n\n", "\n \n", "\n#", "\n#\n"} {
			fatalIf(t, do(t, x+behind) != got, "%q behind %s", behind, x)
		}
	}
}

// ways are lines that may stand, with all their words; each is told otherwise where a word of it is wrong.
var ways = []string{
	"set a id 3", "serve b 4", "open a 0 9 2",
	"send a 1 all", "fill b 1 all 4 5", "fill a 1 2 4 5", "cancel a b 1", "tick 5", "crash b 1 2", "crash a 1 2 done", "boot b", "hex a 0f", "lose", "late 4", "copy 2 3",
}

// with is the words of a line, the i-th of them another one.
func with(words []string, i int, word string) string {
	l := append([]string{}, words...)
	l[i] = word
	return strings.Join(l, " ")
}

// Each setting and event with its words, with one word fewer and with one more, at each place.
func TestP171Words(t *testing.T) {
	for _, x := range ways {
		fatalIf(t, strings.Contains(do(t, x), "170"), "%s is none", x)
		words := strings.Fields(x)
		for i := range words {
			fewer := strings.Join(append(append([]string{}, words[:i]...), words[i+1:]...), " ")
			if fewer != "" && fewer != "crash a 1 2" && fewer != "send a 1" {
				noneAt(t, "1", fewer)
			}
			for _, more := range []string{"x", "1", "a", words[i], "done", "all", "#"} {
				many := with(words, i, more+" "+words[i])
				if i > 0 && words[0] != "send" && many != "crash b 1 2 done" {
					noneAt(t, "1", many)
				}
			}
		}
		for _, more := range []string{"x", "1", "0", "a", "b", "all", "#", "# x", "done done", "-"} {
			if words[0] != "send" {
				noneAt(t, "1", x+" "+more)
				noneAt(t, "1", x+"\t "+more+" ")
			}
		}
	}
	noneAt(t, "1", "send a 1")
	noneAt(t, "1", "send a 1 ")
	noneAt(t, "1", "send a")
	noneAt(t, "1", "send")
	noneAt(t, "1", "lose 1")
	noneAt(t, "1", "crash a 1 2 3")
	noneAt(t, "1", "crash a 1 done")
	noneAt(t, "1", "crash a 1 2 Done")
	noneAt(t, "1", "crash a 1 2 done done")
	noneAt(t, "1", "crash a 1 2 don")
	noneAt(t, "1", "crash a 1 2 donee")
	noneAt(t, "1", "crash done a 1 2")
}

// A first word that is none.
func TestP171NoCommands(t *testing.T) {
	for _, x := range ways {
		words := strings.Fields(x)
		first := words[0]
		for _, other := range []string{"x", strings.ToUpper(first), strings.ToUpper(first[:1]) + first[1:], first + "s", first[:len(first)-1], first + "#", first + ":", "/", "\\" + first, "\"" + first + "\"", "0", "1", "a", "all", "done", "id", "command", "events", "add", "submit", "read", "take", "join", "place", "copies", "arrive", "inject", "fate", "ticks", "-", "!", "~"} {
			line := with(words, 0, strings.ReplaceAll(other, "/", "|"))
			noneAt(t, "1", line)
			noneAt(t, "2", "#/"+line)
			noneAt(t, "1", "  "+line)
		}
	}
	for _, x := range []string{"settings", "x", "tick1", "tick,1", "tick=1", "losee", "los", "lo se", "l ose", "-", "/x"} {
		noneAt(t, fmt.Sprint(1+strings.Count(x, "/")), x)
	}
}

// W is a or b, and nothing else.
func TestP171Engines(t *testing.T) {
	for _, x := range ways {
		words := strings.Fields(x)
		for i, w := range words {
			if w != "a" && w != "b" {
				continue
			}
			for _, other := range []string{"c", "A", "B", "aa", "ab", "ba", "0", "1", "2", "all", "a:", "#", "x", "`", "a,b", "-a"} {
				noneAt(t, "1", with(words, i, other))
			}
			for _, other := range []string{"a", "b"} {
				fatalIf(t, strings.Contains(do(t, with(words, i, other)), "170"), "%s: %s", x, other)
			}
		}
	}
}

// Bytes that may not stand in a line, in each kind of line, at each place, and those that may.
func TestP171Bytes(t *testing.T) {
	for b := range 256 {
		if b == 10 {
			continue
		}
		c := string([]byte{byte(b)})
		may := b == 9 || b >= 32 && b <= 126
		want := ""
		if !may {
			want = "error 170 at line 1\n"
		}
		for _, x := range []string{"#" + c, "# " + c + " x", "  #" + c, "#x" + c} {
			fatalIf(t, do(t, x) != want, "byte %d in %q: %s", b, x, shell.Do(x))
			fatalIf(t, do(t, x+"\n") != want, "byte %d in %q", b, x)
			fatalIf(t, do(t, "\n\n"+x) != strings.ReplaceAll(want, "line 1", "line 3"), "byte %d in %q, further down", b, x)
		}
		blank := b == 9 || b == 32
		for _, x := range []string{c, c + c, " " + c, c + " "} {
			fatalIf(t, (do(t, x) == "") != (blank || b == '#'), "byte %d alone: %s", b, shell.Do(x))
		}
		text := do(t, "send a 1 all x"+c+"y\ntick 2")
		fatalIf(t, strings.HasPrefix(text, "error 170 at line 1\n") == may, "byte %d in a block: %s", b, text)
		for _, x := range []string{c + "tick 3", "tick" + c + "3", "tick 3" + c, "tick " + c + "3", "ti" + c + "ck 3"} {
			got := do(t, x)
			fatalIf(t, !may && got != want, "byte %d in %q: %s", b, x, got)
			fatalIf(t, blank && (got == "") == (x == "ti"+c+"ck 3"), "byte %d in %q: %s", b, x, got)
		}
	}
	for _, x := range []string{"#é", "# \u00a0", "#\u2028", "#\ufffd", "#\U0001f3ee", "#\x7f", "#\r", "#\xc3", "#\xe2\x82", "tick 1\r", "\r", "\v", "\f", "\u00a0", "\ufeff", "\ufeff#", "tick\u00a01", "tick\u20031", "send a 1 all é", "send a 1 all \xff", "tick ١", "tick １", "boot ａ", "hex a ０0"} {
		noneAt(t, "1", x)
		noneAt(t, "2", "/"+x+"/")
	}
}

// Of several lines that are none the first one is told; where it stands, and what stands behind it, makes no difference.
func TestP171WhichLine(t *testing.T) {
	noneAt(t, "1", "x/y/z")
	noneAt(t, "2", "#/y/z")
	noneAt(t, "2", "#/y/tick 1/z")
	noneAt(t, "3", "tick 1//\x01/x")
	noneAt(t, "2", "tick 1/\x01/x")
	noneAt(t, "2", "tick 1/x/\x01")
	noneAt(t, "3", "tick 1/#/set a id 4/x/\x01")
	noneAt(t, "4", "serve a 5/tick 1/tick 1/serve b 5/x")
	none := []string{"x", "tick", "tick 01", "boot c", "#\x01", "\x7f", "hex a 0", "fill a 1 all 65537 0", "set a x 1", "send a 1 x y"}
	good := []string{"tick 1", "", "#", "lose", "send a 1 all hello", "boot a", "tick 0", "late 9999"}
	for k := range 60 {
		var text strings.Builder
		for i := range k {
			text.WriteString(good[(i*5+k)%len(good)] + "\n")
		}
		for i := range none {
			for _, x := range []string{none[i], none[i] + "\n", none[i] + "\n" + none[(i+k)%len(none)], none[i] + "\nset a id 9\n#\x00\n"} {
				fatalIf(t, do(t, text.String()+x) != fmt.Sprintf("error 170 at line %d\n", k+1), "line %d is told as %s", k+1, shell.Do(text.String()+x))
			}
		}
	}
	fatalIf(t, do(t, strings.Repeat("tick 1\n", 9999)+"tick") != "error 170 at line 10000\n", "far down")
	fatalIf(t, do(t, strings.Repeat("#\n", 99999)+"x\n") != "error 170 at line 100000\n", "further down")
}

// A line that is none is told ahead of all that world.Run would refuse; of that, what comes first there.
func TestP171LinesFirst(t *testing.T) {
	many := strings.Repeat("tick 1/", 2001)
	for _, x := range []struct{ text, answer string }{
		{"tick 0/", "error 150/"},
		{"set a mtu 10/", "error 140/"},
		{"set a mtu 10/tick 0/", "error 140/"},
		{many, "error 2/"},
		{"set a mtu 10/" + many, "error 2/"},
		{many + "tick 0/", "error 2/"},
		{"set a id 2/tick 0/" + many + "boot a/", "error 2/"},
	} {
		tells(t, x.text, x.answer)
		k := fmt.Sprint(1 + strings.Count(x.text, "/"))
		noneAt(t, k, x.text+"x")
		noneAt(t, k, x.text+"\x01/x")
		noneAt(t, k, x.text+"tick/")
		noneAt(t, "1", "x/"+x.text)
	}
}

// The errors of world.Run that a text can come to, each at its border.
func TestP171WorldErrors(t *testing.T) {
	t.Parallel()
	tells(t, strings.Repeat("tick 1/", 2000), "")
	tells(t, strings.Repeat("tick 1/", 2001), "error 2/")
	tells(t, strings.Repeat("lose/", 2000), "")
	tells(t, strings.Repeat("lose/", 2001), "error 2/")
	tells(t, strings.Repeat("lose/", 39999), "error 2/")
	tells(t, strings.Repeat("#/lose/  /", 2000), "")
	tells(t, "set a id 4/"+strings.Repeat("lose/", 2000)+"#", "")
	tells(t, "set a id 4/"+strings.Repeat("serve a 4/", 3000), "error 140/")
	tells(t, "tick 1000", "")
	tells(t, "tick 1001", "error 150/")
	tells(t, strings.Repeat("tick 1000/", 20), "")
	tells(t, strings.Repeat("tick 1000/", 20)+"tick 1", "error 150/")
	tells(t, strings.Repeat("tick 1000/", 19)+"tick 999/tick 1", "")
	for _, x := range []string{"tick 0", "tick 1001", "tick " + most, "late 0", "late 1001", "late " + most, "copy 0 1", "copy 1 0", "copy 1 4", "copy 1001 1", "copy " + most + " " + most} {
		tells(t, x, "error 150/")
		tells(t, "send a 1 all x/"+x+"/tick 1", "error 150/")
		tells(t, "tick 1/"+x+"/", "error 150/")
	}
	for _, x := range []string{"late 1", "late 1000", "copy 1 1", "copy 1000 3", "tick 1", "lose", "cancel a b " + most, "crash a " + most + " " + most, "crash b 0 0 done", "send a " + most + " " + most + " x", "fill b 0 0 0 " + most} {
		plays(t, x)
	}
	for _, x := range []string{"set a id 0", "set b id 0", "set a id 2", "set a retry 0", "set b cycles 1001", "set a compact 0", "serve a 1/serve a 1", "open b 4 4 1"} {
		tells(t, x, "error 140/")
		tells(t, x+"/tick 0", "error 140/")
	}
}

// The same text is answered the same again, with another one between.
func TestSameAgain(t *testing.T) {
	texts := []string{"", "x", "send a 1 all hello\ntick 3", "set a id 9\nserve a 5\nserve b 5\nopen a 2 9 1\nsend a 5 1 xyz\ntick 9", "tick 0", "set b room 3\nboot b", strings.Repeat("lose\n", 2001), strings.Repeat("#", mostBytes+1), "lose\ncrash b 0 0\nsend a 1 all x\ntick 30\nboot b\ntick 30"}
	var first []string
	for _, x := range texts {
		first = append(first, do(t, x))
	}
	for i, x := range texts {
		for _, y := range texts {
			shell.Do(y)
			fatalIf(t, shell.Do(x) != first[i], "%q behind %q", short(x), short(y))
		}
	}
}
