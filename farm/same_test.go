package farm_test

import (
	"slices"
	"sync"
	"testing"

	"lantern/api"
	"lantern/farm"
)

// run is what Run tells of a row that is played.
func run(t *testing.T, l []api.Script, workers int) [][]api.Line {
	told, no := farm.Run(l, workers)
	fatalIf(t, no != ok || len(told) != len(l), "error %d, %d lists of %d scripts", no, len(told), len(l))
	return told
}

// P16.2, T8: the same row with every number of workers.
func TestP162EveryNumberOfWorkers(t *testing.T) {
	t.Parallel()
	for seed := range uint64(25) {
		r := chance(seed, 162)
		l := r.row(r.among(1, 2, 9, 16, 30, 64), 0)
		told, _ := oneByOne(l, 1)
		for workers := 1; workers <= 16; workers++ {
			wants(t, l, workers, told, ok)
		}
		l[r.IntN(len(l))] = refusals()[seed%4].script
		for workers := 1; workers <= 16; workers++ {
			wants(t, l, workers, nil, refusals()[seed%4].no)
		}
	}
}

// The same row in another order tells the same of each script.
func TestP162AnotherOrder(t *testing.T) {
	t.Parallel()
	for seed := range uint64(40) {
		r := chance(seed, 1620)
		l := r.row(2+r.IntN(30), 0)
		told := run(t, l, 1+r.IntN(16))
		order := r.Perm(len(l))
		var other []api.Script
		var want [][]api.Line
		for _, i := range order {
			other, want = append(other, l[i]), append(want, told[i])
		}
		wants(t, other, 1+r.IntN(16), want, ok)
		slices.Reverse(other)
		slices.Reverse(want)
		wants(t, other, 1+r.IntN(16), want, ok)
	}
}

// What is told of a script does not hang on those beside it.
func TestP162Beside(t *testing.T) {
	t.Parallel()
	for seed := range uint64(30) {
		r := chance(seed, 1621)
		s := r.script()
		alone := run(t, []api.Script{s}, 1)[0]
		for range 5 {
			l := r.row(1+r.IntN(20), 0)
			at := r.IntN(len(l))
			l[at] = s
			got := run(t, l, 1+r.IntN(16))[at]
			fatalIf(t, !sameLines(got, alone), "beside others: %d lines, alone %d", len(got), len(alone))
		}
	}
}

// The same script more than once in a row.
func TestP162MoreThanOnce(t *testing.T) {
	t.Parallel()
	for _, s := range played() {
		one := run(t, []api.Script{s}, 1)[0]
		for _, n := range []int{2, 3, 17, 64} {
			for _, workers := range []int{1, 2, 16} {
				wants(t, slices.Repeat([]api.Script{s}, n), workers, slices.Repeat([][]api.Line{one}, n), ok)
			}
		}
	}
}

// Scripts that take long beside scripts that take none.
func TestP162LongAndShort(t *testing.T) {
	t.Parallel()
	for _, l := range [][]api.Script{
		{long(), calm(), talk(), calm(), step()},
		{calm(), talk(), step(), calm(), long()},
		{calm(), long(), talk(), long(), step(), calm(), long(), talk()},
	} {
		told, no := oneByOne(l, 1)
		fatalIf(t, no != ok, "error %d", no)
		for _, workers := range []int{1, 2, 3, 5, 16} {
			wants(t, l, workers, told, ok)
		}
	}
}

// T8, W2: many runs at one time, of the same row, and again and again.
func TestT8ManyRunsAtOneTime(t *testing.T) {
	t.Parallel()
	l := append(chance(8, 8).row(20, 0), played()...)
	bad := append(chance(9, 8).row(20, 0), refusals()[2].script)
	told, _ := oneByOne(l, 1)
	var all sync.WaitGroup
	for i := range 24 {
		all.Go(func() {
			for _, workers := range []int{1 + i%16, 16 - i%16} {
				if got, no := farm.Run(l, workers); no != ok || !sameRow(got, told) {
					t.Errorf("%d workers: error %d, %s", workers, no, show(got))
				}
				if got, no := farm.Run(bad, workers); no != 140 || len(got) != 0 {
					t.Errorf("%d workers: error %d, %s", workers, no, show(got))
				}
			}
		})
	}
	all.Wait()
}

// P16.4: a row cut in two at each place.
func TestP164CutAtEachPlace(t *testing.T) {
	t.Parallel()
	for seed := range uint64(12) {
		r := chance(seed, 164)
		l := r.row(r.among(1, 5, 20, 64), 0)
		told := run(t, l, 1+r.IntN(16))
		for at := range len(l) + 1 {
			a, b := run(t, l[:at], 1+r.IntN(16)), run(t, l[at:], 1+r.IntN(16))
			fatalIf(t, !sameRow(append(a, b...), told), "cut at %d of %d, and something else is told", at, len(l))
		}
	}
}

// Two rows, one behind the other, also if some of theirs are refused: then that of the one counts, if there is one, else that of the other.
func TestP164TwoRows(t *testing.T) {
	t.Parallel()
	for seed := range uint64(200) {
		r := chance(seed, 1640)
		a, b := r.row(r.IntN(12), r.among(0, 8)), r.row(r.IntN(12), r.among(0, 8))
		first, no := farm.Run(a, 1+r.IntN(16))
		second, then := farm.Run(b, 1+r.IntN(16))
		if no == ok {
			no = then
		}
		want := append(first, second...)
		if no != ok {
			want = nil
		}
		wants(t, slices.Concat(a, b), 1+r.IntN(16), want, no)
	}
}

// .. as long as there are not too many.
func TestP164TooMany(t *testing.T) {
	for _, n := range []int{1, 2, 32, 64} {
		a, b := many(n), many(64-n)
		want := append(run(t, a, 3), run(t, b, 16)...)
		wants(t, slices.Concat(a, b), 7, want, ok)
		refuses(t, 2, 7, slices.Concat(a, b, many(1))...)
	}
}
