package timers_test

import (
	"testing"

	"lantern/api"
)

// readCalls are the calls that bytes name, two each; the ticks are few, so that timers run out, and none at times.
func readCalls(b []byte, keys []api.Key) (l []call) {
	does := []string{start, start, stop, drop, hold, goOn, tick, tick}
	for i := 0; i+1 < len(b); i += 2 {
		c := call{do: does[b[i]%8], key: keys[int(b[i+1])%len(keys)]}
		switch c.do {
		case start:
			c.ticks = int(b[i] / 8 % 16)
		case tick:
			c.key = api.Key{}
		}
		l = append(l, c)
	}
	return l
}

// Whatever is called: a table does as is counted tick by tick.
func FuzzTimers(f *testing.F) {
	f.Add([]byte{16, 0, 24, 1, 6, 0, 6, 0, 6, 0})
	f.Add([]byte{8, 3, 4, 3, 6, 0, 5, 3, 6, 0, 8, 3, 2, 3})
	f.Add([]byte{9, 23, 17, 22, 16, 1, 3, 23, 6, 0, 6, 0})
	f.Fuzz(func(t *testing.T, b []byte) {
		keys := few()
		plays(t, readCalls(b[:min(len(b), 400)], keys), keys)
	})
}
