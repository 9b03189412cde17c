package engine_test

import (
	"math/rand/v2"
	"testing"

	"lantern/disk"
)

// Whatever is called, whatever comes, wherever there is no room and whenever the power goes: an engine does as its model.
func FuzzEngine(f *testing.F) {
	f.Add([]byte{0, 1, 2, 3, 200, 201, 40, 41}, uint64(1))
	f.Add([]byte{250, 17, 90, 251, 0, 252, 4, 30, 66, 66}, uint64(2))
	f.Add([]byte{60, 61, 62, 63, 64, 65, 66, 67, 68, 69, 0, 0, 0, 253, 9}, uint64(3))
	f.Fuzz(func(t *testing.T, b []byte, seed uint64) {
		r := lot{rand.New(rand.NewPCG(seed, 14))}
		x := on(1<<14, r.drawn())
		x.boot(t, 0)
		for i := 0; i < min(len(b), 200); i++ {
			n := int(b[i])
			c := lot{rand.New(rand.NewPCG(uint64(n), seed))}.call(x)
			switch {
			case n >= 254:
				x.hands(func(h *disk.Hand) { h.Arm(i%5, n%2 == 0) })
			case n >= 245:
				c = short(i, c)
			}
			c(t, x)
			if x.e == nil || x.m.dead {
				x.crash(n)
				x.frees()
				x.boot(t, i)
			}
		}
	})
}

// Whatever bytes come, from whomever.
func FuzzReceive(f *testing.F) {
	for _, x := range every(session(2, 1)) {
		f.Add(printed(&testing.T{}, x), 2)
	}
	f.Add([]byte{255}, 9)
	f.Fuzz(func(t *testing.T, raw []byte, from int) {
		b := on(1<<14, tight())
		b.boot(t, 0)
		submitted(t, b, 2, 7, wholeRow[:5], 5, 1)
		for range 2 {
			b.receive(t, from, raw)
			b.tick(t)
		}
	})
}
