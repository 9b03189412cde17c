package world_test

import (
	"math/rand/v2"
	"testing"

	"lantern/api"
	"lantern/world"
)

// Whatever an event is: it may be as the table says, or nothing is played.
func FuzzEvent(f *testing.F) {
	for _, x := range base() {
		f.Add(x.Kind, x.Who, x.A, x.B, x.C, x.Data)
	}
	f.Fuzz(func(t *testing.T, kind, who, a, b, c int, data []byte) {
		x := api.Event{Kind: kind, Who: who, A: a, B: b, C: c, Data: data}
		want := ok
		if !mayBe(x) {
			want = 150
		}
		_, no := world.Run(usual().c, usual().room, []api.Event{x})
		fatalIf(t, no != want, "error %d, not %d, of %+v", no, want, x)
	})
}

// Whatever is played: it tells what the model tells, and nothing is delivered twice.
func FuzzRun(f *testing.F) {
	f.Add([]byte{1, 2, 3, 200, 201, 40, 41}, uint64(1))
	f.Add([]byte{250, 17, 90, 251, 0, 252, 4, 30, 66, 66}, uint64(2))
	f.Add([]byte{60, 61, 62, 63, 64, 65, 66, 67, 68, 69, 0, 0, 0, 253, 9}, uint64(3))
	f.Fuzz(func(t *testing.T, b []byte, seed uint64) {
		s := lot{rand.New(rand.NewPCG(seed, 15))}.setup()
		var script []api.Event
		for i := range min(len(b), 150) {
			r := lot{rand.New(rand.NewPCG(uint64(b[i]), seed))}
			if b[i] >= 240 {
				script = append(script, r.foreign(s))
			} else {
				script = append(script, r.event())
			}
		}
		s.run(t, script...)
	})
}
