package shell_test

import (
	"fmt"
	"strings"
	"testing"

	"lantern/shell"
)

// gap is blanks.
func (r lot) gap() string {
	return r.among(" ", "\t", "  ", " \t", "\t ", "\t\t\t", "     ")
}

// loose is a line with more blanks between its words, ahead of them and behind them; where a block stands behind it, ahead of that there are just those that were.
func (r lot) loose(line string) string {
	words, tail := strings.Split(line, " "), ""
	if words[0] == "send" && len(words) > 4 {
		tail = " " + strings.Join(words[4:], " ")
		words = words[:4]
	} else if words[0] != "send" && r.IntN(2) == 0 {
		tail = r.gap()
	}
	out := r.among("", "", r.gap())
	for i, w := range words {
		if i > 0 {
			out += r.gap()
		}
		out += w
	}
	return out + tail
}

// P17.3: lines that say nothing, and blanks more, change nothing of the answer.
func TestP173Played(t *testing.T) {
	t.Parallel()
	for seed := range uint64(1500) {
		r := chance(seed, 173)
		text := r.text()
		want := do(t, strings.Join(text, "\n"))
		var l []string
		for _, x := range text {
			for range r.IntN(3) {
				l = append(l, r.nothing())
			}
			l = append(l, r.loose(x))
		}
		for range r.IntN(3) {
			l = append(l, r.nothing())
		}
		loose := strings.Join(l, "\n")
		fatalIf(t, do(t, loose) != want, "%q\nanswers\n%s\n%q\nanswers\n%s", strings.Join(text, "\n"), want, loose, shell.Do(loose))
	}
}

// P17.3: of K they change no more than by how many lines stand ahead.
func TestP173None(t *testing.T) {
	t.Parallel()
	for seed := range uint64(1500) {
		r := chance(seed, 1730)
		text := r.text()
		bad := r.IntN(len(text) + 1)
		none := r.among("x", "tick", "tick 01", "boot c", "send a 1 x y", "fill a 1 all 65537 0", "hex a 0", "set a x 5", "lose 1", "copy 1")
		text = append(text[:bad:bad], append([]string{none}, text[bad:]...)...)
		want := fmt.Sprintf("error 170 at line %d\n", bad+1)
		fatalIf(t, do(t, strings.Join(text, "\n")) != want, "%q is told as %s", none, shell.Do(strings.Join(text, "\n")))
		var l []string
		at := 0
		for i, x := range text {
			for range r.IntN(3) {
				l = append(l, r.nothing())
			}
			l = append(l, r.loose(x))
			if i == bad {
				at = len(l)
			}
		}
		loose := strings.Join(l, "\n")
		fatalIf(t, do(t, loose) != fmt.Sprintf("error 170 at line %d\n", at), "line %d is none, and is told as %s", at, shell.Do(loose))
	}
}

// One line that says nothing, at each place of a text; and one blank more, at each place between two words.
func TestP173EachPlace(t *testing.T) {
	text := []string{"set a mtu 90", "set b timeout 7", "serve b 1", "serve b 4", "open a 0 50 3", "crash b 2 9 done", "lose", "late 3", "copy 2 2", "send a 1 all  two  words ", "fill b 1 3 9 40", "tick 7", "hex a 00", "boot b", "cancel a a 1", "tick 30"}
	want := do(t, strings.Join(text, "\n"))
	fatalIf(t, strings.Count(want, "\n") < 15, "%s", want)
	for i := range len(text) + 1 {
		for _, x := range []string{"", " ", "\t", "#", "# tick 1", "\t# x"} {
			l := append(append(append([]string{}, text[:i]...), x), text[i:]...)
			fatalIf(t, do(t, strings.Join(l, "\n")) != want, "%q ahead of the line %d", x, i+1)
		}
	}
	for i, line := range text {
		words := 0
		for at := range len(line) {
			if line[at] != ' ' {
				continue
			}
			words++
			if words > 3 && strings.HasPrefix(line, "send") {
				break
			}
			for _, x := range []string{" ", "\t", " \t ", strings.Repeat(" ", 500)} {
				for _, other := range []string{line[:at] + x + line[at:], line[:at+1] + x + line[at+1:], line[:at] + "\t" + line[at+1:]} {
					l := append(append(append([]string{}, text[:i]...), other), text[i+1:]...)
					fatalIf(t, do(t, strings.Join(l, "\n")) != want, "%q", other)
				}
			}
		}
	}
	tells(t, "send  a\t1  0 x/tick 2", came("x"))
	tells(t, "send  a\t1  0  x/tick 2", came(" x"))
}
