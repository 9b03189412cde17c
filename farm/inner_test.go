package farm

import (
	"slices"
	"testing"

	"lantern/api"
)

// orders goes through all orders of a list.
func orders(l []find, visit func([]find)) {
	if len(l) == 0 {
		visit(nil)
	}
	for i, x := range l {
		rest := slices.Delete(slices.Clone(l), i, i+1)
		orders(rest, func(o []find) { visit(append([]find{x}, o...)) })
	}
}

// inOrder is what is put together of finds that come in this order.
func inOrder(l []find) ([][]api.Line, api.Errno) {
	finds := make(chan find, len(l))
	for _, f := range l {
		finds <- f
	}
	close(finds)
	return together(finds, len(l))
}

// line is one that no other number has.
func line(n int) []api.Line { return []api.Line{{Tick: n}} }

// P16.2: in whichever order workers come with what they found, it is told in the order of the scripts.
func TestP162WhoCameWhen(t *testing.T) {
	var l []find
	for i := range 6 {
		l = append(l, find{number: i, lines: line(i)})
	}
	orders(l, func(o []find) {
		told, no := inOrder(o)
		if no != api.OK || len(told) != 6 {
			t.Fatalf("error %d, %d lists", no, len(told))
		}
		for i := range told {
			if len(told[i]) != 1 || told[i][0].Tick != i {
				t.Fatalf("%d: %+v", i, told[i])
			}
		}
	})
}

// P16.1, P16.2: also why the first one is refused; and beside that nothing is told.
func TestP162WhoWasRefusedWhen(t *testing.T) {
	for first := range 5 {
		var l []find
		for i := range 5 {
			f := find{number: i, lines: line(i)}
			if i == first || i > first && i%2 == 0 {
				f = find{number: i, no: api.Errno(100 + i)}
			}
			l = append(l, f)
		}
		orders(l, func(o []find) {
			if told, no := inOrder(o); no != api.Errno(100+first) || told != nil {
				t.Fatalf("error %d, not %d, and %d lists", no, 100+first, len(told))
			}
		})
	}
}
