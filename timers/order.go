package timers

import (
	"cmp"
	"slices"

	"lantern/api"
)

// order is that of things which have fields that can be compared: the first field in which two of them differ tells.
type order[T any, F cmp.Ordered] []func(T) F

// sort puts things in order.
func (o order[T, F]) sort(l []T) { slices.SortFunc(l, o.compare) }

// compare tells which of two comes first.
func (o order[T, F]) compare(a, b T) int {
	for _, field := range o {
		if n := cmp.Compare(field(a), field(b)); n != 0 {
			return n
		}
	}
	return 0
}

// keyOrder is the order of keys.
func keyOrder() order[api.Key, int] {
	return order[api.Key, int]{
		func(k api.Key) int { return k.Peer },
		func(k api.Key) int { return k.Session.Origin },
		func(k api.Key) int { return k.Session.Number },
		func(k api.Key) int { return k.Kind },
		func(k api.Key) int { return k.Serial },
	}
}
