package farm_test

import (
	"testing"

	"lantern/api"
)

// Whatever the row: it is told as if each were played by itself, one behind the other.
func FuzzRun(f *testing.F) {
	f.Add([]byte{0, 1, 2, 3}, uint64(1), 2)
	f.Add([]byte{200, 201, 250, 3, 251}, uint64(2), 16)
	f.Add([]byte{255}, uint64(3), 0)
	f.Add(make([]byte, 65), uint64(4), 17)
	f.Fuzz(func(t *testing.T, b []byte, seed uint64, workers int) {
		var l []api.Script
		bad := refusals()
		for _, x := range b[:min(len(b), 70)] {
			if x >= 240 {
				l = append(l, bad[int(x)%len(bad)].script)
			} else {
				l = append(l, chance(seed, uint64(x)).script())
			}
		}
		told, no := oneByOne(l, workers)
		wants(t, l, workers, told, no)
	})
}
