package farm_test

import (
	"runtime"
	"slices"
	"strings"
	"testing"
	"time"

	"lantern/api"
	"lantern/farm"
)

// workersNow is how many goroutines there are that a farm has made, and how many of them are playing.
func workersNow() (all, playing int) {
	b := make([]byte, 1<<20)
	for stack := range strings.SplitSeq(string(b[:runtime.Stack(b, true)]), "\n\n") {
		if !strings.Contains(stack, "created by lantern/farm.") {
			continue
		}
		all++
		if strings.Contains(stack, "lantern/world.Run(") {
			playing++
		}
	}
	return all, playing
}

// ended wants that no goroutine is left. (One that was joined already may need a moment to leave; it plays no more.)
func ended(t *testing.T) {
	t.Helper()
	all, playing := workersNow()
	fatalIf(t, playing > 0, "%d worlds are still played", playing)
	for range 1000 {
		if all == 0 {
			return
		}
		time.Sleep(time.Millisecond)
		all, _ = workersNow()
	}
	t.Fatalf("%d goroutines are left", all)
}

// P16.2: each goroutine has ended when Run answers, whatever that is.
func TestP162AllHaveEnded(t *testing.T) {
	ended(t)
	bad := refusals()[3].script
	for _, l := range [][]api.Script{
		nil,
		{calm()},
		{bad},
		played(),
		many(64),
		many(65),
		{bad, long(), long()},
		{long(), bad, long(), calm()},
		{long(), calm(), bad},
		append(many(63), bad),
		slices.Repeat([]api.Script{bad}, 64),
	} {
		for _, workers := range []int{0, 1, 2, 3, 16, 17} {
			farm.Run(l, workers)
			ended(t)
		}
	}
}

// Nor are there more and more of them.
func TestP162NoneIsLeft(t *testing.T) {
	before := runtime.NumGoroutine()
	bad := refusals()[0].script
	for i := range 300 {
		farm.Run([]api.Script{talk(), bad, step()}, 1+i%16)
		farm.Run([]api.Script{talk(), step()}, 1+i%16)
	}
	ended(t)
	for range 1000 {
		if runtime.NumGoroutine() <= before {
			return
		}
		time.Sleep(time.Millisecond)
	}
	t.Fatalf("%d goroutines, and there were %d", runtime.NumGoroutine(), before)
}

// mostAtOnce is how many worlds were seen to be played at one time.
func mostAtOnce(t *testing.T, l []api.Script, workers int) int {
	done := make(chan api.Errno)
	go func() {
		_, no := farm.Run(l, workers)
		done <- no
	}()
	most := 0
	for {
		select {
		case no := <-done:
			fatalIf(t, no != ok, "error %d", no)
			return most
		default:
			_, playing := workersNow()
			most = max(most, playing)
			runtime.Gosched()
		}
	}
}

// P16.1: so many workers play at one time, and no more. (How many of them one sees is chance, so it is looked at again, if need be.)
func TestP161AtOneTime(t *testing.T) {
	for _, workers := range []int{1, 2, 5, 16} {
		l := slices.Repeat([]api.Script{long()}, workers+1)
		most := 0
		for range 50 {
			most = max(most, mostAtOnce(t, l, workers))
			fatalIf(t, most > workers, "%d worlds at one time by %d workers", most, workers)
			if most == workers {
				break
			}
		}
		fatalIf(t, most < workers, "never more than %d worlds at one time by %d workers", most, workers)
	}
}
