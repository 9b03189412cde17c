package shell_test

import (
	"strings"
	"testing"
)

// rows goes through all rows of at most n words.
func rows(words []string, n int, each func([]string)) {
	row := make([]string, 0, n)
	var longer func()
	longer = func() {
		each(row)
		if len(row) == n {
			return
		}
		for _, w := range words {
			row = append(row, w)
			longer()
			row = row[:len(row)-1]
		}
	}
	longer()
}

// Every line of few words.
func TestP171EveryShortLine(t *testing.T) {
	t.Parallel()
	taken := map[string]int{}
	for _, first := range []string{"set", "serve", "open", "send", "fill", "cancel", "tick", "crash", "boot", "hex", "lose", "late", "copy", "x", "#"} {
		n := 4
		if first == "fill" || first == "crash" {
			n = 5
		}
		rows([]string{"a", "b", "id", "0", "2", "all", "done", "00"}, n, func(row []string) {
			got := do(t, first+" "+strings.Join(row, " "))
			if !strings.HasPrefix(got, "error 170") {
				taken[first]++
			}
		})
	}
	args := map[string]int{"set": 2 * 1 * 2, "serve": 2 * 2, "open": 2 * 2 * 2 * 2, "fill": 2 * 2 * 3 * 2 * 2, "cancel": 2 * 2 * 2, "tick": 2, "crash": 2 * 2 * 2 * 2, "boot": 2, "hex": 2 * 1, "lose": 1, "late": 2, "copy": 4, "send": 2 * 2 * 3 * 9}
	for first, n := range args {
		fatalIf(t, taken[first] != n, "%d lines of %s are taken, not %d", taken[first], first, n)
	}
	fatalIf(t, taken["x"] != 0, "%d lines of no command are taken", taken["x"])
}

// Every text of few pieces.
func TestP171EveryShortText(t *testing.T) {
	t.Parallel()
	rows([]string{"\n", " ", "\t", "#", "lose", "x", "\x01"}, 6, func(row []string) { do(t, strings.Join(row, "")) })
	rows([]string{"\n", " ", "tick", "1", "0", "set a id 1"}, 6, func(row []string) { do(t, strings.Join(row, "")) })
}

// Every text of few lines.
func TestP171EveryFewLines(t *testing.T) {
	t.Parallel()
	rows([]string{"", "# x", "set a id 3", "serve b 1", "send a 1 all x", "tick 2", "lose", "tick 0", "x"}, 5, func(row []string) { do(t, strings.Join(row, "\n")) })
}
