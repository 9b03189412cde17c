package farm_test

import (
	"testing"

	"lantern/api"
	"lantern/farm"
	"lantern/world"
)

// The chapter's table of examples, row by row.
func TestExamples(t *testing.T) {
	at := func(events ...api.Event) api.Script {
		return with(script(events...), func(s *api.Script) { s.Room = [2]int{10000, 10000} })
	}
	a, b, x := at(), at(ticks(1)), at(api.Event{Kind: 99})
	alone := func(s api.Script) []api.Line {
		l, no := world.Run(s.Configs, s.Room, s.Events)
		fatalIf(t, no != ok, "error %d", no)
		return l
	}
	wants(t, nil, 1, nil, ok)
	wants(t, []api.Script{a, b, a}, 2, [][]api.Line{alone(a), alone(b), alone(a)}, ok)
	_, no := world.Run(x.Configs, x.Room, x.Events)
	fatalIf(t, no != 150, "error %d", no)
	refuses(t, no, 16, a, x)
	refuses(t, no, 1, x, a, x)
	refuses(t, api.ErrFarmWorkers, 0, a)
	refuses(t, api.ErrFarmWorkers, 17, a)
	refuses(t, api.ErrFarmWorkers, 0, x)
	l, no := farm.Run(make([]api.Script, 65), 0)
	fatalIf(t, no != api.ErrLong || len(l) != 0, "error %d", no)
}

// The errors' numbers are those of the chapter, and of DOC.md's limits.
func TestErrorsAndLimits(t *testing.T) {
	fatalIf(t, api.ErrLong != 2 || api.ErrFarmWorkers != 160, "errors %d and %d", api.ErrLong, api.ErrFarmWorkers)
	fatalIf(t, api.MaxWorlds != 64 || api.MaxWorkers != 16, "limits %d and %d", api.MaxWorlds, api.MaxWorkers)
}
