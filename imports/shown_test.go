package imports_test

import (
	"slices"
	"testing"

	"lantern/api"
)

// Closed is asked for each part of it: Red, Size, and each byte of the red part in a claim of a report that is acknowledged.
func TestP138Closed(t *testing.T) {
	b := begin(t, usual().rules(1, 9))
	is := func(want bool) {
		t.Helper()
		fatalIf(t, b.Closed() != want, "Closed: %v; %v", b.Closed(), shows(b.Import))
	}
	is(false)
	b.take(t, api.RedCheck, 0, 10, 1)
	b.take(t, api.RedPlain, 10, 15)
	b.take(t, api.RedEnd, 20, 30, 2)
	b.does(t, acks(101))
	b.does(t, acks(102))
	is(false) // bytes are missing
	b.take(t, api.GreenLast, 30, 40)
	is(false)
	b.take(t, api.RedPlain, 15, 20)
	is(false) // they came, and are in no claim
	b.take(t, api.RedCheck, 18, 20, 3, 102)
	is(false) // it is not acknowledged
	b.does(t, sends(103))
	is(false)
	b.does(t, acks(103))
	is(true)
	b.does(t, drops())
	is(true)
	b.take(t, api.RedCheck, 0, 2, 4)
	is(true) // one more report, which nobody needs
	fatalIf(t, b.Waits() != 1, "Waits: %d", b.Waits())
}

// Without Size it is not closed, without Red neither.
func TestP138ClosedLengths(t *testing.T) {
	for _, x := range []struct {
		kinds []int
		want  bool
	}{
		{[]int{api.RedCheck}, false},
		{[]int{api.RedEnd}, false},
		{[]int{api.RedLast}, true},
		{[]int{api.RedCheck, api.GreenLast}, false},
		{[]int{api.RedEnd, api.GreenPlain}, false},
		{[]int{api.RedEnd, api.GreenLast}, true},
		{[]int{api.GreenLast, api.RedEnd}, true},
		{[]int{api.GreenLast, api.RedCheck}, false},
	} {
		b := begin(t, usual())
		for _, kind := range x.kinds {
			if kind >= api.GreenPlain {
				b.take(t, kind, 10, 20)
			} else {
				b.take(t, kind, 0, 10, 1)
			}
		}
		b.does(t, acks(101))
		fatalIf(t, b.Closed() != x.want, "%v: Closed is %v", x.kinds, b.Closed())
	}
}

// Each byte counts: with one that no acknowledged report claims it is not closed, wherever that is.
func TestP138ClosedEachByte(t *testing.T) {
	const size = 200
	for at := range size {
		b := begin(t, usual().rules(1, 9))
		if at > 0 {
			b.take(t, api.RedCheck, 0, at, 1)
		}
		if at < size-1 {
			b.take(t, api.RedLast, at+1, size, 2)
		}
		for _, x := range b.m.letters {
			b.does(t, acks(x.Serial))
		}
		if at < size-1 {
			b.take(t, api.RedCheck, at, at+1, 3)
		} else {
			b.take(t, api.RedLast, at, at+1, 3)
		}
		fatalIf(t, b.Closed() || !b.Whole(), "without %d: %v", at, shows(b.Import))
		b.does(t, acks(b.m.letters[len(b.m.letters)-1].Serial))
		fatalIf(t, !b.Closed(), "with %d: not closed", at)
	}
}

// Claims count from wherever they come, over one another or not, in any order.
func TestP138ClosedAllTogether(t *testing.T) {
	orders(4, func(order []int) {
		b := begin(t, usual().rules(1, 9))
		for i, x := range [][2]int{{0, 70}, {60, 130}, {130, 140}, {135, 200}} {
			kind := api.RedCheck
			if x[1] == 200 {
				kind = api.RedLast
			}
			b.take(t, kind, x[0], x[1], i+1)
		}
		for _, i := range order {
			b.does(t, acks(101+i))
			fatalIf(t, b.Closed() != (b.m.letters[3].acked), "behind %d of %v: %v", i, order, b.Closed())
		}
	})
}

// What acknowledged reports claim can be more spans than a set has; Closed is right even so.
func TestP138ClosedOfManySpans(t *testing.T) {
	m, _ := usual().link(4096).rules(1, 1000).open()
	take := func(kind, from, to int, numbers ...int) []api.Segment {
		t.Helper()
		got, e := m.Take(usual().seg(kind, from, to, numbers...))
		fatalIf(t, e != ok || got.Over, "%v %v", got, e)
		return got.Send
	}
	acked := 0
	ack := func(l []api.Segment) {
		for _, r := range l {
			acked += len(r.Claims)
			m.Ack(r.Report)
		}
	}
	scatter := func(at, n int) {
		for _, s := range ones(at, n) {
			take(api.RedPlain, s.From, s.To)
		}
	}
	// Every other byte of a stretch, acknowledged; then the others, which nobody acknowledges.
	scatter(0, 1900)
	ack(take(api.RedCheck, 3798, 3799, 1))
	take(api.RedPlain, 0, 3999)
	// Every other byte of the next one, of which half is acknowledged, together with all of the one behind it.
	scatter(4001, 1900)
	l := take(api.RedCheck, 7799, 7800, 2)
	fatalIf(t, len(l) != 2 || l[1].Lower < 4001, "%d reports", len(l))
	take(api.RedPlain, 8000, 9000)
	ack(take(api.RedLast, 8999, 9000, 3, l[1].Report))
	fatalIf(t, acked <= 2000 || m.Closed(), "%d spans are acknowledged", acked)
	take(api.RedPlain, 3999, 8000)
	l = take(api.RedCheck, 7999, 8000, 4)
	fatalIf(t, len(l) != 1 || !m.Whole() || m.Closed(), "%d reports; %v", len(l), m.Closed())
	ack(l)
	fatalIf(t, !m.Closed(), "not closed")
}

// Drop lets the bytes go for good; Have goes on to grow, and so does what is whole.
func TestP138Drop(t *testing.T) {
	b := begin(t, usual())
	b.take(t, api.RedPlain, 0, 10)
	b.does(t, drops())
	fatalIf(t, b.Held() != 0 || !slices.Equal(b.Have(), spans(0, 10)), "%v", shows(b.Import))
	b.does(t, drops())
	b.judged(t, b.m.seg(api.RedLast, 5, 20, 1), api.Verdict{Fresh: 10, Red: 20, Size: 20, Whole: true})
	b.wants(t, takes(b.m.seg(api.RedLast, 5, 20, 1)), brings(b.tells(101, 1, 0, 20, 0, 20)))
	fatalIf(t, b.Held() != 0 || len(b.Bytes()) != 0 || !b.Whole() || !slices.Equal(b.Have(), spans(0, 20)), "%v", shows(b.Import))
	b.does(t, acks(101))
	fatalIf(t, !b.Closed(), "not closed")
}

// Bytes are the red part alone, and only when it is whole.
func TestP138Bytes(t *testing.T) {
	for _, red := range []int{1, 2, 64, 100, 5000} {
		b := begin(t, usual().rules(1, 9))
		for at := range red - 1 {
			if at < 200 || at == red-2 {
				b.take(t, api.RedPlain, at, at+1)
			}
		}
		fatalIf(t, len(b.Bytes()) != 0 || b.Whole(), "Red %d: not known, and whole", red)
		b.take(t, api.RedPlain, 0, red)
		fatalIf(t, len(b.Bytes()) != 0 || b.Whole(), "Red %d: not known, and whole", red)
		b.take(t, api.GreenLast, red, red+5)
		b.take(t, api.RedEnd, red-1, red, 1)
		fatalIf(t, !slices.Equal(b.Bytes(), wholeBlock[:red]) || !b.Whole() || b.Held() != red, "Red %d: %v", red, shows(b.Import))
	}
}

// Of a block of the greatest length all is told.
func TestP138Greatest(t *testing.T) {
	m, _ := usual().link(4096).open()
	for at := 0; at < most; at += 4096 {
		x := usual().seg(api.RedPlain, at, at+4096)
		if at+4096 == most {
			x.Type, x.Check = api.RedLast, 1
		}
		_, e := m.Take(x)
		fatalIf(t, e != ok, "%v", e)
	}
	fatalIf(t, m.Red() != most || !m.Whole() || m.Held() != most || !slices.Equal(m.Bytes(), wholeBlock) || m.Closed(), "%v", shows(m))
	m.Ack(101)
	fatalIf(t, !m.Closed() || m.Waits() != 0, "%v", shows(m))
}
