package shell_test

import (
	"fmt"
	"math/rand/v2"
	"strings"
	"testing"
)

// lot draws texts.
type lot struct{ *rand.Rand }

func chance(seed, kind uint64) lot { return lot{rand.New(rand.NewPCG(seed, kind))} }

func (r lot) among(l ...string) string { return l[r.IntN(len(l))] }

func (r lot) who() string { return r.among("a", "b") }

// small is a number that can well be met.
func (r lot) small(n int) string { return fmt.Sprint(r.IntN(n)) }

// block is a TEXT.
func (r lot) block() string {
	var b strings.Builder
	for range r.IntN(30) {
		b.WriteString(r.among("x", "hello", " ", "\t", "#", `"`, `\`, "~", "1", "all", "/"))
	}
	return b.String()
}

func (r lot) red() string { return r.among("all", "all", "0", r.small(12)) }

func (r lot) setting() string {
	switch r.IntN(8) {
	case 0:
		return fmt.Sprintf("serve %s %s", r.who(), r.small(5))
	case 1:
		from := r.IntN(20)
		return fmt.Sprintf("open %s %d %d %d", r.who(), from, from+1+r.IntN(30), 1+r.IntN(5))
	}
	k := keys[r.IntN(len(keys))]
	n := max(k.usual+r.IntN(5)-2, 0)
	switch k.name {
	case "id":
		n = 1 + r.IntN(60)
	case "mtu":
		n = 80 + r.IntN(300)
	case "timeout", "idle", "retry", "cycles", "sessions", "every", "queue":
		n = 1 + r.IntN(20)
	case "hold", "room", "compact":
		n = 1 + r.IntN(3000)
	}
	return fmt.Sprintf("set %s %s %d", r.who(), k.name, n)
}

func (r lot) event() string {
	switch n := r.IntN(40); {
	case n < 9:
		return fmt.Sprintf("send %s %s %s %s", r.who(), r.among("1", "1", "1", "2", "0"), r.red(), r.block())
	case n < 14:
		return fmt.Sprintf("fill %s %s %s %d %d", r.who(), r.among("1", "1", "2"), r.red(), r.IntN(400), r.IntN(600))
	case n < 24:
		return fmt.Sprintf("tick %d", 1+r.IntN(12))
	case n < 26:
		return fmt.Sprintf("cancel %s %s %d", r.who(), r.who(), r.IntN(4))
	case n < 29:
		return fmt.Sprintf("crash %s %d %d%s", r.who(), r.IntN(6), r.IntN(80), r.among("", "", " done"))
	case n < 31:
		return "boot " + r.who()
	case n < 32:
		return "hex " + r.who() + " " + r.among("00", "0f", "0b020500017800", "0d01010000", "0102050001000178", "ffff")
	case n < 35:
		return "lose"
	case n < 38:
		return fmt.Sprintf("late %d", 1+r.IntN(9))
	}
	return fmt.Sprintf("copy %d %d", 1+r.IntN(6), 1+r.IntN(3))
}

func (r lot) nothing() string {
	return r.among("", "", " ", "\t", "  \t", "#", "# tick 3", "\t #x", "#\t", "##")
}

// text is one that may be.
func (r lot) text() []string {
	var l []string
	for range r.IntN(5) {
		l = append(l, r.setting())
	}
	for range r.IntN(30) {
		l = append(l, r.event())
	}
	return l
}

// spoilt is a line of which something may be wrong.
func (r lot) spoilt(line string) string {
	at := r.IntN(len(line) + 1)
	switch r.IntN(7) {
	case 0:
		return line[:at]
	case 1:
		return line[at:]
	case 2:
		return line[:at] + r.among(" ", "\t", "0", "1", "a", "x", "#", "\x00", "\x7f", "\xff", "é", "\r", "-") + line[at:]
	case 3:
		words := strings.Split(line, " ")
		i := r.IntN(len(words))
		words[i] = r.among("a", "b", "c", "0", "01", "all", "done", "id", most, oneMore, "send", "tick", "-1", "")
		return strings.Join(words, " ")
	case 4:
		return line + " " + r.among("done", "0", "x", "#", "")
	case 5:
		return r.setting()
	}
	return string([]byte{byte(r.IntN(256))}) + line
}

// Texts by chance are answered as the model says.
func TestP171Chance(t *testing.T) {
	t.Parallel()
	played := 0
	for seed := range uint64(3000) {
		r := chance(seed, 171)
		got := do(t, strings.Join(r.text(), "\n"))
		if !strings.HasPrefix(got, "error") && strings.Count(got, "\n") > 10 {
			played++
		}
	}
	fatalIf(t, played < 1000, "only %d are played", played)
}

// Texts of which lines may be wrong, too.
func TestP171ChanceSpoilt(t *testing.T) {
	t.Parallel()
	none, fine := 0, 0
	for seed := range uint64(6000) {
		r := chance(seed, 1710)
		l := r.text()
		for range 1 + r.IntN(2) {
			if len(l) > 0 {
				i := r.IntN(len(l))
				l[i] = r.spoilt(l[i])
			}
		}
		if strings.HasPrefix(do(t, strings.Join(l, "\n")), "error 170") {
			none++
		} else {
			fine++
		}
	}
	fatalIf(t, none < 1000 || fine < 500, "%d are none, %d are fine", none, fine)
}
