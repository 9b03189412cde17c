package timers_test

import (
	"slices"
	"testing"

	"lantern/api"
	"lantern/timers"
)

// spoil writes over a list and all its spare room.
func spoil(l []api.Key) {
	l = l[:cap(l)]
	for i := range l {
		l[i] = key(99, 98, 97, 4, i)
	}
}

// crowd starts timers of so many keys, each to run out at its own of some ticks.
func crowd(t *testing.T, x *timers.Timers, many, ends int) {
	t.Helper()
	for i := range many {
		starts(t, x, key(1+i%3, 1, 1, 1, i), 1+i%ends)
	}
}

// What is answered is the asker's: written over, its spare room too, it changes no table and no other answer.
func TestP107AnswersWrittenOver(t *testing.T) {
	for _, many := range []int{1, 2, 3, 5, 8, 40, 300} {
		x, y := timers.New(), timers.New()
		crowd(t, x, many, 5)
		crowd(t, y, many, 5)
		var kept [][]api.Key
		for range 6 {
			out, want := x.Tick(), y.Tick()
			fatalIf(t, !slices.Equal(out, want), "%d timers: %v, not %v", many, out, want)
			kept = append(kept, want)
			spoil(out)
			counts(t, x, y.Count())
			for i := range many {
				n, _ := y.Left(key(1+i%3, 1, 1, 1, i))
				has(t, x, key(1+i%3, 1, 1, 1, i), n)
			}
			has(t, x, key(99, 98, 97, 4, 0), 0)
		}
		sum := 0
		for _, l := range kept {
			sum += len(l)
			for _, k := range l {
				fatalIf(t, k.Peer == 99, "an answer was written over by another one: %v", l)
			}
		}
		fatalIf(t, sum != many, "%d ran out, not %d", sum, many)
	}
}

// Answers of one table, one behind the other, share no memory either.
func TestP107AnswersBehindOneAnother(t *testing.T) {
	x := timers.New()
	crowd(t, x, 60, 4)
	var kept, copies [][]api.Key
	for range 4 {
		out := x.Tick()
		kept, copies = append(kept, out), append(copies, slices.Clone(out))
	}
	for i := range kept {
		spoil(kept[i])
		for j := i + 1; j < len(kept); j++ {
			fatalIf(t, !slices.Equal(kept[j], copies[j]), "the answers %d and %d share memory", i, j)
		}
	}
	starts(t, x, keyA(), 1)
	ticks(t, x, keyA())
}

// No timers ran out: an empty list, whatever ran out ahead.
func TestP105NoneRanOut(t *testing.T) {
	x := timers.New()
	fatalIf(t, len(x.Tick()) != 0, "of no timers some ran out")
	crowd(t, x, 9, 1)
	fatalIf(t, len(x.Tick()) != 9, "not all ran out")
	for range 3 {
		fatalIf(t, len(x.Tick()) != 0, "they ran out again")
	}
	x.Hold(1)
	starts(t, x, keyA(), 1)
	fatalIf(t, len(x.Tick()) != 0, "one ran out that is held")
}
