package table_test

import (
	"bytes"
	"fmt"
	"slices"
	"testing"

	"lantern/api"
)

// letters are bytes of which those at one place differ from record to record.
func letters(from, to, turn int) string {
	var l []byte
	for n := from; n < to; n++ {
		l = append(l, byte(1+n+turn*64))
	}
	return string(l)
}

// permuted calls of each order of some numbers.
func permuted(l []int, done int, call func([]int)) {
	if done == len(l) {
		call(l)
		return
	}
	for i := done; i < len(l); i++ {
		l[done], l[i] = l[i], l[done]
		permuted(l, done+1, call)
		l[done], l[i] = l[i], l[done]
	}
}

// Spans that lie apart, touch, overlap and lie in one another, in each order: the first byte of a place stays.
func TestP81BytesInAnyOrder(t *testing.T) {
	s := at(2, 1)
	pieces := spans(0, 2, 2, 4, 6, 9, 1, 7, 3, 4, 12, 13)
	permuted([]int{0, 1, 2, 3, 4, 5}, 0, func(l []int) {
		x, m := mustLoad(t, b), newModel(b)
		for turn, i := range l {
			r := red(s, pieces[i].From, 0, 0, letters(pieces[i].From, pieces[i].To, turn%3))
			mustApply(t, x, r)
			m.apply(r)
			fatalIf(t, !same(x.State(), m.state()), "order %v, at %d: %s, not %s", l, turn, brief{x.State()}, brief{m.state()})
		}
		stands(t, x, m)
	})
}

// Each three spans of a small window, one behind the other, also the same ones.
func TestP81BytesTwiceAndOverlapping(t *testing.T) {
	s := at(2, 1)
	var all []api.Span
	for from := range 5 {
		for to := from + 1; to <= 5; to++ {
			all = append(all, api.Span{From: from, To: to})
		}
	}
	for i, one := range all {
		for k, two := range all {
			for n, three := range all {
				l := row(b)
				for turn, p := range []api.Span{one, two, three} {
					l = append(l, red(s, p.From, 0, 5, letters(p.From, p.To, turn)))
				}
				x, m := mustLoad(t, l...), newModel(l...)
				fatalIf(t, !same(x.State(), m.state()), "%d %d %d: %s, not %s", i, k, n, brief{x.State()}, brief{m.state()})
			}
		}
	}
}

// Between what came are noughts, and the data end with the last byte that came.
func TestP83DataOfAnImport(t *testing.T) {
	s := at(2, 1)
	x := mustLoad(t, b, red(s, 4, 0, 0, "ab"))
	for _, step := range []struct {
		r    api.Record
		data string
		have []api.Span
	}{
		{red(s, 4, 0, 0, "ab"), "\x00\x00\x00\x00ab", spans(4, 6)},
		{red(s, 1, 0, 0, "c"), "\x00c\x00\x00ab", spans(1, 2, 4, 6)},
		{red(s, 9, 0, 20, "d"), "\x00c\x00\x00ab\x00\x00\x00d", spans(1, 2, 4, 6, 9, 10)},
		{red(s, 0, 0, 20, "xxxx"), "xcxxab\x00\x00\x00d", spans(0, 6, 9, 10)},
		{red(s, 6, 11, 20, "yyyyy"), "xcxxabyyydy", spans(0, 11)},
		{red(s, 0, 11, 20, "zzzzzzzzzzz"), "xcxxabyyydy", spans(0, 11)},
	} {
		mustApply(t, x, step.r)
		i := x.State().Incoming[0]
		fatalIf(t, string(i.Data) != step.data || !slices.Equal(i.Have, step.have), "behind %s: %q %v", brief{step.r}, i.Data, i.Have)
	}
	mustApply(t, x, done(s))
	i := x.State().Incoming[0]
	fatalIf(t, string(i.Data) != "xcxxabyyydy" || !i.Delivered || i.Red != 11 || i.Size != 20, "%s", brief{i})
	mustApply(t, x, heard(s))
	i = x.State().Incoming[0]
	fatalIf(t, len(i.Data) != 0 || !slices.Equal(i.Have, spans(0, 11)) || !i.Heard || i.Red != 11 || i.Size != 20 || i.Service != 7, "%s", brief{i})
}

// A byte that is a nought came, too.
func TestP81NoughtsCome(t *testing.T) {
	s := at(2, 1)
	x := mustLoad(t, b, red(s, 1, 0, 0, "\x00"), red(s, 0, 3, 0, "abc"))
	fatalIf(t, string(x.State().Incoming[0].Data) != "a\x00c", "%s", brief{x.State()})
}

// The last byte that a block can have.
func TestP81BytesAtTheEndOfABlock(t *testing.T) {
	s := at(2, 1)
	all := some(whole)
	x := mustLoad(t, b, red(s, whole-1, 0, 0, string(all[whole-1:])), red(s, 0, whole, whole, string(all[:whole-1])), done(s))
	fatalIf(t, !bytes.Equal(x.State().Incoming[0].Data, all) || !slices.Equal(x.State().Incoming[0].Have, spans(0, whole)), "%s", brief{x.State()})
	again := mustLoad(t, x.Snapshot()...)
	fatalIf(t, !same(again.State(), x.State()), "%s", brief{again.State()})
	refuses(t, x, red(s, whole, 0, 0, "a"), wrong)
}

// combed is a row of records of so many bytes, each with a gap ahead of it.
func combed(s api.Session, count int) []api.Record {
	l := row(b)
	for _, x := range comb(1, count) {
		l = append(l, red(s, x.From, 0, 0, string(rune('a'+x.From%26))))
	}
	return l
}

// So many spans may be, and one more may not; what is refused for that changes nothing.
func TestP81BigAtTheLimit(t *testing.T) {
	s := at(2, 1)
	l := combed(s, limit)
	x, m := mustLoad(t, l...), newModel(l...)
	stands(t, x, m)
	last := 2 * limit
	for _, r := range []struct {
		r api.Record
		e api.Errno
	}{
		{red(s, last+1, 0, 0, "q"), big},
		{red(s, whole-1, 0, 0, "q"), big},
		{red(s, last+1, whole, whole, "qqqq"), big},
		{red(s, last+1, 0, last+2, "q"), big},
		{other(red(s, last+1, 0, 0, "q")), order}, // it can not follow: that stands ahead
		{red(s, 0, last-1, 0, "q"), order},
		{red(s, last+1, 0, 0, ""), wrong},
	} {
		fatalIf(t, m.can(r.r) != r.e, "the model is wrong: %d", m.can(r.r))
		refuses(t, x, r.r, r.e)
	}
	for _, r := range []api.Record{
		red(s, last, 0, 0, "q"), // touches the last one
		red(s, 0, 0, 0, "q"),    // and the first
		red(s, 1, 0, 0, "q"),    // came
		red(s, 2, 0, 0, "q"),    // makes two one
		red(s, 9, 0, 0, "qqqq"), // three
		red(s, last-1, 9000, 9000, "qq"),
		red(at(2, 2), 0, 0, 0, "q"), // another session
	} {
		fatalIf(t, m.can(r) != ok, "the model is wrong: %d", m.can(r))
		y := mustLoad(t, append(row(l...), r)...)
		n := newModel(append(row(l...), r)...)
		stands(t, y, n)
	}
	// Once two have become one there is room for another.
	mustApply(t, x, red(s, 2, 0, 0, "q"), red(s, last+1, 0, 0, "q"))
	refuses(t, x, red(s, last+3, 0, 0, "q"), big)
}

// One less than may be, so that the record that comes is the last one that may.
func TestP81BigOneBelow(t *testing.T) {
	s := at(2, 1)
	x := mustLoad(t, combed(s, limit-1)...)
	mustApply(t, x, red(s, 2*limit+7, 0, 0, "q"))
	fatalIf(t, len(x.State().Incoming[0].Have) != limit, "%d spans", len(x.State().Incoming[0].Have))
	refuses(t, x, red(s, 2*limit+9, 0, 0, "q"), big)
}

// One record fills more gaps than a set has spans; what came stays between.
func TestP81FillsAllGaps(t *testing.T) {
	s := at(2, 1)
	x := mustLoad(t, combed(s, limit)...)
	size := 2*limit + 1
	mustApply(t, x, red(s, 0, size, size, string(bytes.Repeat([]byte{'-'}, size))))
	want := bytes.Repeat([]byte{'-'}, size)
	for _, h := range comb(1, limit) {
		want[h.From] = byte('a' + h.From%26)
	}
	i := x.State().Incoming[0]
	fatalIf(t, !slices.Equal(i.Have, spans(0, size)) || !bytes.Equal(i.Data, want), "%s", brief{i})
	mustApply(t, x, done(s), shut(s), heard(s))
	fatalIf(t, fmt.Sprint(x.State()) != fmt.Sprint(api.State{Id: 1, Boots: 1, Next: 1, Tombs: []api.Tomb{{Origin: 2, Spans: spans(1, 2)}}}), "%s", brief{x.State()})
}
