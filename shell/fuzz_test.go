package shell_test

import (
	"strings"
	"testing"

	"lantern/shell"
)

// Whatever a text is: it is answered as the chapter says, again and again.
func FuzzDo(f *testing.F) {
	for _, x := range ways {
		f.Add(x)
	}
	for seed := range uint64(30) {
		r := chance(seed, 17)
		f.Add(strings.Join(r.text(), "\n"))
	}
	f.Add("send a 1 all hello\ntick 3\n")
	f.Add("#\n\n \t\nset b id 9\n\x00")
	f.Fuzz(func(t *testing.T, text string) {
		got := do(t, text)
		fatalIf(t, shell.Do(text) != got, "%q is answered otherwise when it is asked again", text)
	})
}
