package shell_test

import (
	"strings"
	"testing"

	"lantern/shell"
)

const (
	mostBytes = 200000                // MaxLine
	mostBlock = 65536                 // MaxBlock
	most      = "4611686018427387903" // MaxNum
	oneMore   = "4611686018427387904"
)

// fatalIf marks itself as a helper in need alone: that takes time, and it is called often.
func fatalIf(t *testing.T, wrong bool, words string, what ...any) {
	if wrong {
		t.Helper()
		t.Fatalf(words, what...)
	}
}

// lines is a text in which / stood for the bytes 10.
func lines(text string) string { return strings.ReplaceAll(text, "/", "\n") }

// short is a text of which a great deal is left out, if it is long.
func short(text string) string {
	if len(text) < 2000 {
		return text
	}
	return text[:1000] + " .. " + text[len(text)-1000:]
}

// do is what a text is answered, which has to be what the model says.
func do(t *testing.T, text string) string {
	got := shell.Do(text)
	if want := answers(text); got != want {
		t.Helper()
		t.Fatalf("%q\nanswered\n%s\nnot\n%s", short(text), short(got), short(want))
	}
	return got
}

// tells wants that a text is answered just so; / stands for a byte 10 in both.
func tells(t *testing.T, text, want string) {
	t.Helper()
	if got := do(t, lines(text)); got != lines(want) {
		t.Fatalf("%q\nanswered\n%s\nnot\n%s", short(text), short(got), short(lines(want)))
	}
}

// noneAt wants that the line k is told to be none.
func noneAt(t *testing.T, k, text string) {
	t.Helper()
	tells(t, text, "error 170 at line "+k+"/")
}

// plays wants that a text is played, and is what it answers.
func plays(t *testing.T, text string) string {
	t.Helper()
	got := do(t, lines(text))
	fatalIf(t, strings.HasPrefix(got, "error"), "%q\nanswered\n%s", short(text), got)
	return got
}
