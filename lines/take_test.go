package lines_test

import (
	"slices"
	"testing"

	"lantern/api"
	"lantern/lines"
)

// Each two types: of one kind the earlier goes first, else the kind says it.
func TestP113TheOrderOfEachTwo(t *testing.T) {
	turnOf := func(kind int) int {
		return slices.IndexFunc(turns(), func(turn string) bool { return is(api.Segment{Type: kind}, turn) })
	}
	for _, a := range types() {
		for _, b := range types() {
			x := lines.New(2)
			answers(t, x, 5, some(a, session(1, 1), 1), ok)
			answers(t, x, 5, some(b, session(2, 2), 2), ok)
			if turnOf(a) <= turnOf(b) {
				comes(t, x, 5, 2, 1, 2)
			} else {
				comes(t, x, 5, 2, 2, 1)
			}
			counts(t, x, 5, 0)
		}
	}
}

// mixed puts so many segments, of types that change, for a peer, and tells the marks in the order in which they are to come.
func mixed(t *testing.T, x *lines.Lines, peer, many int) (order []int) {
	t.Helper()
	rows := make([][]int, 3)
	for i := range many {
		kind := types()[i*7%12]
		answers(t, x, peer, some(kind, session(1+i%3, 1), i), ok)
		for turn, row := range turns() {
			if is(api.Segment{Type: kind}, row) {
				rows[turn] = append(rows[turn], i)
			}
		}
	}
	return slices.Concat(rows...)
}

// Fewer than wait, just so many, more, none.
func TestP113HowMany(t *testing.T) {
	const many = 30
	for most := range many + 3 {
		x := lines.New(many)
		order := mixed(t, x, 2, many)
		n := min(most, many)
		comes(t, x, 2, most, order[:n]...)
		counts(t, x, 2, many-n)
		comes(t, x, 2, many, order[n:]...)
		comes(t, x, 2, many)
		counts(t, x, 2, 0)
	}
	x := lines.New(many)
	order := mixed(t, x, 2, many)
	for _, most := range []int{0, -1, -many, -top, minInt, minInt + 1} {
		comes(t, x, 2, most)
		counts(t, x, 2, many)
	}
	comes(t, x, 2, maxInt, order...)
}

// Of a peer of whom nothing was put, or all was taken, nothing comes, and nobody else's is touched.
func TestP113OtherPeers(t *testing.T) {
	x := lines.New(20)
	two, three := mixed(t, x, 2, 20), mixed(t, x, 3, 13)
	for _, p := range []int{minInt, -2, 0, 1, 4, 1<<32 + 2, top, maxInt} {
		for _, most := range []int{-1, 0, 1, 5, maxInt} {
			comes(t, x, p, most)
		}
		counts(t, x, p, 0)
	}
	comes(t, x, 2, maxInt, two...)
	comes(t, x, 2, maxInt)
	counts(t, x, 3, 13)
	comes(t, x, 3, 5, three[:5]...)
	again := mixed(t, x, 2, 9)
	comes(t, x, 3, maxInt, three[5:]...)
	comes(t, x, 2, maxInt, again...)
}

// What comes is what was put, in each field.
func TestP113EachField(t *testing.T) {
	x := lines.New(99)
	var want []api.Segment
	for _, kind := range []int{9, 13, 15, 8, 12, 14, 0, 1, 2, 3, 4, 7} {
		s := some(kind, session(top, top-1), kind)
		s.Tail = []api.Ext{{Tag: 1}, {Tag: 255, Data: []byte{9, 8}}}
		want = append(want, s, some(kind, session(1, 1), kind))
	}
	for _, s := range want {
		answers(t, x, 1, s, ok)
	}
	out := x.Take(1, len(want))
	fatalIf(t, !sameAll(out, want), "%v, not %v", out, want)
}

// Take of a and then of b is Take of a + b.
func TestP117OneTakeOrTwo(t *testing.T) {
	const many = 14
	for a := range many + 2 {
		for b := range many + 2 {
			x, y := lines.New(many), lines.New(many)
			mixed(t, x, 2, many)
			mixed(t, y, 2, many)
			two := append(x.Take(2, a), x.Take(2, b)...)
			single := y.Take(2, a+b)
			fatalIf(t, !sameAll(two, single), "%d and %d: %v, not %v", a, b, marks(two), marks(single))
			counts(t, x, 2, y.Count(2))
		}
	}
}

// An answer that is put behind whatever there is goes ahead of all controls and data, behind answers alone.
func TestP117AnswersGoFirst(t *testing.T) {
	for _, kind := range answerTypes() {
		for waiting := range 20 {
			x := lines.New(99)
			order := mixed(t, x, 2, waiting)
			ahead := 0
			for i := range waiting {
				if slices.Contains(answerTypes(), types()[i*7%12]) {
					ahead++
				}
			}
			answers(t, x, 2, some(kind, session(9, 9), 500), ok)
			comes(t, x, 2, ahead, order[:ahead]...)
			comes(t, x, 2, 1, 500)
			comes(t, x, 2, 99, order[ahead:]...)
		}
	}
}

// Puts and takes by turns: what is put between two takes goes where its kind says.
func TestP113PutsBetweenTakes(t *testing.T) {
	x := lines.New(2)
	answers(t, x, 1, some(0, session(1, 1), 1), ok)
	answers(t, x, 1, some(4, session(1, 1), 2), ok)
	comes(t, x, 1, 1, 1)
	answers(t, x, 1, some(3, session(1, 1), 3), ok)
	answers(t, x, 1, some(12, session(1, 1), 4), ok)
	comes(t, x, 1, 2, 4, 2)
	answers(t, x, 1, some(8, session(1, 1), 5), ok)
	answers(t, x, 1, some(15, session(1, 1), 6), ok)
	answers(t, x, 1, some(14, session(1, 1), 7), ok)
	answers(t, x, 1, some(9, session(1, 1), 8), ok)
	comes(t, x, 1, 3, 6, 8, 5)
	comes(t, x, 1, 9, 7, 3)
}

// A line of any length, of which always about so many wait: the order stays, whatever moves within.
func TestP113LongLines(t *testing.T) {
	for _, wait := range []int{1, 2, 3, 4, 5, 8, 17, 100} {
		x := lines.New(0)
		in, out := 0, 0
		for out < 3000 {
			for range 1 + in%7 {
				if in-out < wait {
					answers(t, x, 1, some(0, session(1, 1), in), ok)
					in++
				}
			}
			for _, s := range x.Take(1, 1+in%3) {
				fatalIf(t, markOf(s) != out, "%d came, not %d", markOf(s), out)
				out++
			}
			counts(t, x, 1, in-out)
		}
	}
}

// So many as an engine may let wait, taken one by one.
func TestP113ManyOneByOne(t *testing.T) {
	const many = api.MaxQueue
	x := lines.New(many)
	rows := map[string][]int{}
	for i := range many {
		kind := types()[i%12]
		e := x.Put(8, some(kind, session(1, 1), i))
		fatalIf(t, e != ok, "Put %d: %d", i, e)
		for _, turn := range turns() {
			if is(api.Segment{Type: kind}, turn) {
				rows[turn] = append(rows[turn], i)
			}
		}
	}
	left := many
	for _, turn := range turns() {
		for _, mark := range rows[turn] {
			comes(t, x, 8, 1, mark)
			left--
			counts(t, x, 8, left)
		}
	}
	fatalIf(t, left != 0, "%d are left", left)
	comes(t, x, 8, 1)
}
