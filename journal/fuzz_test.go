package journal_test

import (
	"testing"

	"lantern/disk"
)

// Whatever stands on a disk, whatever is done with it and wherever its power goes: a journal does as its twin.
func FuzzJournal(f *testing.F) {
	two := frames(row(500, 2)...)
	f.Add(100, 3, true, two, []byte{0, 1}, []byte{2, 3, 7, 11, 4})
	f.Add(60, 9, false, append(two, 5), []byte{}, []byte{5, 14, 8, 12, 1, 6, 1})
	f.Add(22, 0, false, two[:20], two, []byte{10, 10, 3})
	f.Fuzz(func(t *testing.T, room, acts int, done bool, journal, beside, todo []byte) {
		if len(journal)+len(beside) > room || len(todo) > 200 {
			return
		}
		start := []func(*disk.Hand){put(old, journal, len(journal)/2)}
		if len(beside) > 0 {
			start = append(start, put(fresh, beside, len(beside)))
		}
		var row []step
		for _, b := range todo {
			row = append(row, steps()[int(b)%len(steps())])
		}
		play(t, room, start, row, acts, done)
	})
}
