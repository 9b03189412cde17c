package lines_test

import (
	"bytes"
	"math"
	"slices"
	"testing"

	"lantern/api"
	"lantern/lines"
)

// What the chapter says, once more and in another way than the package: one list of all that waits, of all peers and kinds, as it was put; who asks goes through it.

const (
	top    = 1<<62 - 1 // MaxNum
	maxInt = math.MaxInt
	minInt = math.MinInt
	ok     = api.OK
	arg    = api.ErrArg
	full   = api.ErrLinesFull
)

func fatalIf(t *testing.T, wrong bool, words string, what ...any) {
	t.Helper()
	if wrong {
		t.Fatalf(words, what...)
	}
}

// kinds are those of the types, by their numbers: an answer, a control, data that are red, data that are green; else there is no such type.
const kinds = "rrrrg--gca--caca"

// turns are the kinds in the order in which they go; red and green data go at one time.
func turns() []string { return []string{"a", "c", "rg"} }

// types are all that there are.
func types() (l []int) {
	for i := range kinds {
		if kinds[i] != '-' {
			l = append(l, i)
		}
	}
	return l
}

func session(origin, number int) api.Session { return api.Session{Origin: origin, Number: number} }

// some is a right segment of a type and a session; its mark stands in an extension, which each type can have.
func some(kind int, s api.Session, mark int) api.Segment {
	x := api.Segment{Type: kind, Session: s, Head: []api.Ext{{Tag: mark % 256, Data: []byte{byte(mark >> 8), byte(mark >> 16)}}}}
	switch kinds[kind] {
	case 'r', 'g':
		x.Service, x.Offset, x.Data = 7, 3, []byte{1, 2, 3}
		if kind >= 1 && kind <= 3 {
			x.Check, x.Report = 4, 5
		}
	case 'c':
		if kind == 8 {
			x.Report, x.Check, x.Lower, x.Upper, x.Claims = 6, 4, 1, 20, []api.Span{{From: 2, To: 5}, {From: 9, To: 20}}
		} else {
			x.Reason = 3
		}
	case 'a':
		if kind == 9 {
			x.Report = 6
		}
	}
	return x
}

// markOf is the mark of a segment that some made.
func markOf(s api.Segment) int {
	if len(s.Head) != 1 || len(s.Head[0].Data) != 2 {
		return -1
	}
	return s.Head[0].Tag + int(s.Head[0].Data[0])<<8 + int(s.Head[0].Data[1])<<16
}

func marks(l []api.Segment) (out []int) {
	for _, s := range l {
		out = append(out, markOf(s))
	}
	return out
}

func sameExts(a, b []api.Ext) bool {
	return slices.EqualFunc(a, b, func(x, y api.Ext) bool { return x.Tag == y.Tag && bytes.Equal(x.Data, y.Data) })
}

// same tells whether two segments have the same in each field.
func same(a, b api.Segment) bool {
	numbers := func(s api.Segment) [10]int {
		return [10]int{s.Type, s.Session.Origin, s.Session.Number, s.Service, s.Offset, s.Check, s.Report, s.Upper, s.Lower, s.Reason}
	}
	return numbers(a) == numbers(b) && sameExts(a.Head, b.Head) && sameExts(a.Tail, b.Tail) && bytes.Equal(a.Data, b.Data) && slices.Equal(a.Claims, b.Claims)
}

func sameAll(a, b []api.Segment) bool { return slices.EqualFunc(a, b, same) }

// one is a segment that waits for a peer.
type one struct {
	peer int
	s    api.Segment
}

// list is all that waits, as it was put.
type list struct {
	limit int
	l     []one
}

func (x *list) count(peer int, kind string) (n int) {
	for _, w := range x.l {
		if w.peer == peer && is(w.s, kind) {
			n++
		}
	}
	return n
}

// is tells whether a right segment is of one of some kinds.
func is(s api.Segment, some string) bool { return bytes.IndexByte([]byte(some), kinds[s.Type]) >= 0 }

// put puts a segment that is right.
func (x *list) put(peer int, s api.Segment) api.Errno {
	switch {
	case peer < 1 || peer > top:
		return arg
	case is(s, "a") && x.count(peer, "a") >= x.limit:
		return full
	}
	x.l = append(x.l, one{peer, s})
	return ok
}

// take takes one by one, each time the first of the first kind of which there is one.
func (x *list) take(peer, most int) (out []api.Segment) {
	for range min(max(most, 0), len(x.l)) {
		at := -1
		for _, turn := range turns() {
			if at < 0 {
				at = slices.IndexFunc(x.l, func(w one) bool { return w.peer == peer && is(w.s, turn) })
			}
		}
		if at < 0 {
			return out
		}
		out = append(out, x.l[at].s)
		x.l = slices.Delete(x.l, at, at+1)
	}
	return out
}

func (x *list) drop(s api.Session, all bool) int {
	before, gone := len(x.l), "r"
	if all {
		gone = "rgc"
	}
	x.l = slices.DeleteFunc(x.l, func(w one) bool { return w.s.Session == s && is(w.s, gone) })
	return before - len(x.l)
}

// What can be called; Count is asked behind each.
const (
	put  = "Put"
	take = "Take"
	drop = "Drop"
)

// call is one of lines, with what it has of these.
type call struct {
	do      string
	peer    int
	s       api.Segment
	most    int
	session api.Session
	all     bool
}

func puts(peer int, s api.Segment) call        { return call{do: put, peer: peer, s: s} }
func takes(peer, most int) call                { return call{do: take, peer: peer, most: most} }
func drops(session api.Session, all bool) call { return call{do: drop, session: session, all: all} }

// both are lines, and the list that they are held against.
type both struct {
	lines *lines.Lines
	list  *list
	peers []int // of whom Count is asked
}

func newBoth(limit int, peers ...int) both {
	return both{lines.New(limit), &list{limit: limit}, peers}
}

// does calls both, and wants the same of both, and of Count behind that; told is what came of it.
func (b both) does(t *testing.T, c call) (told int, out []api.Segment) {
	t.Helper()
	switch c.do {
	case put:
		e, want := b.lines.Put(c.peer, c.s), b.list.put(c.peer, c.s)
		fatalIf(t, e != want, "Put(%d, %v): %d, not %d", c.peer, c.s, e, want)
		told = int(e)
	case take:
		var want []api.Segment
		out, want = b.lines.Take(c.peer, c.most), b.list.take(c.peer, c.most)
		fatalIf(t, !sameAll(out, want), "Take(%d, %d): %v, not %v", c.peer, c.most, out, want)
	case drop:
		n, want := b.lines.Drop(c.session, c.all), b.list.drop(c.session, c.all)
		fatalIf(t, n != want, "Drop(%v, %t): %d, not %d", c.session, c.all, n, want)
		told = n
	}
	for _, p := range b.peers {
		n, want := b.lines.Count(p), b.list.count(p, "acrg")
		fatalIf(t, n != want, "behind %v: Count(%d): %d, not %d", c, p, n, want)
	}
	return told, out
}

// ends wants that all that waits comes, and nothing behind it.
func (b both) ends(t *testing.T) {
	t.Helper()
	for _, p := range b.peers {
		b.does(t, takes(p, b.list.count(p, "acrg")+1))
		b.does(t, takes(p, 1))
	}
}

// fill puts one right segment of each type, marked from mark on, for a peer, and wants OK.
func fill(t *testing.T, x *lines.Lines, peer int, s api.Session, mark int) {
	t.Helper()
	for i, kind := range types() {
		e := x.Put(peer, some(kind, s, mark+i))
		fatalIf(t, e != ok, "Put(%d, type %d): %d", peer, kind, e)
	}
}

// counts wants that so many wait for a peer.
func counts(t *testing.T, x *lines.Lines, peer, want int) {
	t.Helper()
	n := x.Count(peer)
	fatalIf(t, n != want, "Count(%d): %d, not %d", peer, n, want)
}

// answers wants what Put answers.
func answers(t *testing.T, x *lines.Lines, peer int, s api.Segment, want api.Errno) {
	t.Helper()
	before := x.Count(peer)
	e := x.Put(peer, s)
	fatalIf(t, e != want, "Put(%d, %v): %d, not %d", peer, s, e, want)
	if e == ok {
		before++
	}
	counts(t, x, peer, before)
}

// comes wants that just these come, by their marks.
func comes(t *testing.T, x *lines.Lines, peer, most int, want ...int) {
	t.Helper()
	out := marks(x.Take(peer, most))
	fatalIf(t, !slices.Equal(out, want), "Take(%d, %d): %v, not %v", peer, most, out, want)
}
