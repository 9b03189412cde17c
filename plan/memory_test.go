package plan_test

import (
	"slices"
	"testing"

	"lantern/api"
)

// lent is a list with spare room behind it, all of it filled with what looks like more of the plan.
func lent(l []api.Contact) []api.Contact {
	return slices.Concat(l, slices.Repeat([]api.Contact{contact(1, 0, 9, 1)}, 7))[:len(l)]
}

// room is a list with its spare room.
func room(l []api.Contact) []api.Contact { return l[:cap(l)] }

// unsorted are lists in no order, plans and others.
func unsorted() [][]api.Contact {
	return [][]api.Contact{
		nil,
		{contact(2, 6, 9, 1), contact(1, 5, 8, 3), contact(1, 0, 5, 2), contact(3, 1, 2, fast), contact(1, 3, 4, 1)},
		{contact(1, 5, 8, 3)},
		{contact(1, 5, 8, 3), contact(1, 0, 0, 2)},
		{contact(2, 5, 8, 600), contact(1, 5, 8, 3), contact(2, 5, 8, 600)},
		crowd(limit),
		crowd(limit + 1),
	}
}

func TestP94WhatIsHandedInStays(t *testing.T) {
	for _, l := range unsorted() {
		want := told(slices.Clip(slices.Clone(l)), around(0, 10))
		x := lent(l)
		was := slices.Clone(room(x))
		got := told(x, around(0, 10))
		fatalIf(t, !slices.Equal(room(x), was), "%v: it, or its spare room, was changed to %v", was, room(x))
		fatalIf(t, !slices.Equal(got, want), "%v: the answers hang on its spare room", l)
	}
}

func TestP94WhatIsHandedInIsNotKept(t *testing.T) {
	ticks := around(0, 10)
	for _, a := range unsorted() {
		for _, b := range unsorted() {
			if len(a) != len(b) {
				continue
			}
			x := slices.Clone(a)
			told(x, ticks)
			copy(x, b)
			fatalIf(t, !slices.Equal(told(x, ticks), told(slices.Clone(b), ticks)), "%v became %v, but the answers did not", a, b)
		}
		x := slices.Clone(a)
		for i := range x {
			told(x, ticks)
			x[i] = contact(1, 2, 7, 1+i%5)
			fatalIf(t, !slices.Equal(told(x, ticks), told(slices.Clone(x), ticks)), "%v at %d became another one, but the answers did not", a, i)
		}
	}
}
