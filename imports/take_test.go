package imports_test

import (
	"slices"
	"testing"

	"lantern/api"
)

// What is no checkpoint is taken, and nothing is to be done.
func TestP134NoCheckpoint(t *testing.T) {
	b := begin(t, usual())
	for _, x := range []api.Segment{
		b.m.seg(api.RedPlain, 0, 10), b.m.seg(api.RedPlain, 0, 10), b.m.seg(api.RedPlain, 20, 30), b.m.seg(api.GreenPlain, 40, 50),
		b.m.seg(api.GreenPlain, 35, 45), b.m.seg(api.GreenLast, 50, 60), b.m.seg(api.GreenLast, 50, 60),
	} {
		b.wants(t, takes(x), api.Moves{})
	}
	fatalIf(t, !slices.Equal(b.Have(), spans(0, 10, 20, 30)) || b.Held() != 20 || b.Red() != 0 || b.Waits() != 0, "%v", shows(b.Import))
}

// Of green the least offset and the greatest end count, in whatever order they come.
func TestP134Green(t *testing.T) {
	parts := [][2]int{{40, 50}, {20, 25}, {45, 60}, {30, 31}}
	orders(len(parts), func(order []int) {
		b := begin(t, usual())
		low, high := most, 0
		for _, i := range order {
			b.take(t, api.GreenPlain, parts[i][0], parts[i][1])
			low, high = min(low, parts[i][0]), max(high, parts[i][1])
			b.judged(t, b.m.seg(api.RedPlain, 0, low), api.Verdict{Fresh: low})
			b.judged(t, b.m.seg(api.RedPlain, 0, low+1), api.Verdict{Wrong: true})
			b.judged(t, b.m.seg(api.GreenLast, 0, high), api.Verdict{Size: high})
			b.judged(t, b.m.seg(api.GreenLast, 0, high-1), api.Verdict{Wrong: true})
		}
	})
}

// orders goes through all orders of n things.
func orders(n int, visit func([]int)) {
	order := make([]int, 0, n)
	var fill func()
	fill = func() {
		if len(order) == n {
			visit(order)
			return
		}
		for i := range n {
			if !slices.Contains(order, i) {
				order = append(order, i)
				fill()
				order = order[:len(order)-1]
			}
		}
	}
	fill()
}

// A checkpoint is answered by all that came up to its end, not beyond it.
func TestP134Answer(t *testing.T) {
	b := begin(t, usual())
	b.take(t, api.RedPlain, 0, 5)
	b.take(t, api.RedPlain, 8, 12)
	b.take(t, api.RedPlain, 30, 40)
	b.wants(t, takes(b.m.seg(api.RedCheck, 10, 20, 9)), brings(b.tells(101, 9, 0, 20, 0, 5, 8, 20)))
	b.wants(t, takes(b.m.seg(api.RedCheck, 0, 1, 8)), brings(b.tells(102, 8, 0, 1, 0, 1)))
	b.wants(t, takes(b.m.seg(api.RedEnd, 39, 42, 11)), brings(b.tells(103, 11, 0, 42, 0, 5, 8, 20, 30, 42)))
	fatalIf(t, b.Waits() != 3 || b.Red() != 42, "%v", shows(b.Import))
}

// There is always a report, and in as many as the mtu asks for they lie side by side; they are met again together.
func TestP134ManyReports(t *testing.T) {
	for _, mtu := range []int{80, 81, 100, 200, 4096} {
		for _, n := range []int{1, 34, 35, 36, 70, 200} {
			b := begin(t, usual().link(mtu).rules(1, 5))
			for _, s := range ones(0, n) {
				b.take(t, api.RedPlain, s.From, s.To)
			}
			x := b.m.seg(api.RedCheck, 2*n, 2*n+1, 77)
			got := b.does(t, takes(x))
			at, claims := 0, []api.Span(nil)
			for i, r := range got.Send {
				fatalIf(t, r.Report != 101+i || r.Lower != at || r.Check != 77, "mtu %d, %d spans: %v", mtu, n, r)
				at = r.Upper
				claims = append(claims, r.Claims...)
			}
			fatalIf(t, at != 2*n+1 || !slices.Equal(claims, ones(0, n+1)) || b.Waits() != len(got.Send), "mtu %d, %d spans: %v", mtu, n, got)
			for _, r := range got.Send {
				b.wants(t, sends(r.Report), starts(r.Report))
			}
			b.wants(t, takes(x), got)
			// Some wait, some are acknowledged: the others are sent again.
			for i, r := range got.Send {
				if i%3 != 0 {
					b.wants(t, sends(r.Report), starts(r.Report))
				}
				if i%3 == 2 {
					b.wants(t, acks(r.Report), stops(r.Report))
				}
			}
			var want []api.Segment
			for i, r := range got.Send {
				if i%3 == 1 {
					want = append(want, r)
				}
			}
			b.wants(t, takes(x), brings(want...))
			b.wants(t, takes(x), api.Moves{})
		}
	}
}

// A checkpoint that is met again: while its report waits, is out, waits again, is acknowledged.
func TestP134MetAgain(t *testing.T) {
	b := begin(t, usual())
	x := b.m.seg(api.RedEnd, 10, 20, 1)
	got := b.does(t, takes(x))
	first := got.Send
	for range 3 {
		b.wants(t, takes(x), api.Moves{})
	}
	for range 5 { // by a checkpoint it may be sent again as often as that comes
		b.wants(t, sends(101), starts(101))
		b.wants(t, takes(x), brings(first...))
		b.wants(t, takes(x), api.Moves{})
	}
	b.wants(t, acks(101), stops(101))
	b.wants(t, takes(x), api.Moves{})
	b.wants(t, sends(101), api.Moves{})
	b.wants(t, takes(x), api.Moves{})
	fatalIf(t, b.Waits() != 0, "Waits: %d", b.Waits())
}

// It is met again by its number alone: with other bytes, another end, another type, another report; its report is as it was.
func TestP134MetAgainOtherwise(t *testing.T) {
	b := begin(t, usual())
	got := b.take(t, api.RedCheck, 10, 20, 1)
	b.wants(t, sends(101), starts(101))
	for _, x := range []api.Segment{
		b.m.seg(api.RedCheck, 0, 5, 1), b.m.seg(api.RedCheck, 25, 30, 1), b.m.seg(api.RedCheck, 10, 20, 1, 101), b.m.seg(api.RedCheck, 10, 20, 1, top),
		b.m.seg(api.RedEnd, 35, 40, 1), b.m.seg(api.RedLast, 30, 40, 1),
	} {
		b.wants(t, takes(x), got)
		b.wants(t, sends(101), starts(101))
	}
	fatalIf(t, !slices.Equal(b.Have(), spans(0, 5, 10, 20, 25, 40)) || b.Red() != 40 || b.Waits() != 1, "%v", shows(b.Import))
}

// Reports of one checkpoint are nothing to another one.
func TestP134EachForItself(t *testing.T) {
	b := begin(t, usual())
	one := b.take(t, api.RedCheck, 0, 10, 1)
	two := b.take(t, api.RedCheck, 20, 30, top)
	for _, serial := range []int{101, 102} {
		b.wants(t, sends(serial), starts(serial))
	}
	b.wants(t, takes(b.m.seg(api.RedCheck, 20, 30, top)), two)
	b.wants(t, takes(b.m.seg(api.RedCheck, 0, 10, 1)), one)
	three := b.take(t, api.RedCheck, 40, 50, 2)
	b.wants(t, sends(103), starts(103))
	b.wants(t, takes(b.m.seg(api.RedCheck, 40, 50, 2)), three)
}

// Nothing new is counted for a checkpoint that is met again: those that brought nothing stay as many.
func TestP134MetAgainIsNotCounted(t *testing.T) {
	b := begin(t, usual().rules(1, 2))
	b.take(t, api.RedCheck, 0, 10, 1)
	for range 10 {
		b.take(t, api.RedCheck, 0, 10, 1)
	}
	b.take(t, api.RedCheck, 0, 10, 2)
	b.take(t, api.RedCheck, 0, 10, 2)
	b.take(t, api.RedCheck, 0, 10, 3)
	b.judged(t, b.m.seg(api.RedCheck, 0, 10, 4), api.Verdict{Cycle: true})
	b.take(t, api.RedCheck, 0, 10, 3)
}

// lowered is an import with three reports of one checkpoint: 101 from 0 on, 102 and 103 further behind.
func lowered(t *testing.T) (*both, []api.Segment) {
	t.Helper()
	b := begin(t, usual().rules(1, 100))
	for _, s := range ones(0, 99) {
		b.take(t, api.RedPlain, s.From, s.To)
	}
	got := b.take(t, api.RedCheck, 198, 199, 1)
	fatalIf(t, len(got.Send) != 3, "%d reports", len(got.Send))
	return b, got.Send
}

// The lower bound is that of the report that is named, if there is one.
func TestP134Lower(t *testing.T) {
	for i := range 3 {
		for state := range 4 { // it waits, is out, waits again, is acknowledged
			b, l := lowered(t)
			serial := l[i].Report
			switch state {
			case 1:
				b.does(t, sends(serial))
			case 2:
				b.does(t, sends(serial))
				b.does(t, lates(serial))
			case 3:
				b.does(t, acks(serial))
			}
			got := b.take(t, api.RedCheck, 150, 199, 2, serial)
			fatalIf(t, got.Send[0].Lower != l[i].Lower || got.Send[len(got.Send)-1].Upper != 199, "%d: %v", serial, got)
		}
	}
	for _, serial := range []int{0, 1, 99, 100, 104, 105, top} {
		b, _ := lowered(t)
		got := b.take(t, api.RedCheck, 150, 199, 2, serial)
		fatalIf(t, got.Send[0].Lower != 0, "%d: %v", serial, got)
	}
}

// A lower bound at the checkpoint's end or above it is none: 0; one below is.
func TestP134LowerAtEnd(t *testing.T) {
	for i := 1; i < 3; i++ {
		for _, off := range []int{-5, -1, 0, 1, 5} {
			b, l := lowered(t)
			end := l[i].Lower + off
			got := b.take(t, api.RedCheck, end-1, end, 2, l[i].Report)
			want := 0
			if off > 0 {
				want = l[i].Lower
			}
			fatalIf(t, got.Send[0].Lower != want || got.Send[len(got.Send)-1].Upper != end, "end at %d, lower %d: %v", end, l[i].Lower, got)
		}
	}
}

// A report whose own lower bound was one of another report hands it on; and the greatest base has serials behind it.
func TestP134LowerHandedOn(t *testing.T) {
	b, l := lowered(t)
	got := b.take(t, api.RedCheck, 150, 199, 2, l[2].Report)
	got = b.take(t, api.RedCheck, 150, 199, 3, got.Send[0].Report)
	fatalIf(t, got.Send[0].Lower != l[2].Lower, "%v", got)
	b = begin(t, usual().from(top/2))
	b.take(t, api.RedCheck, 5, 10, 1, top/2+1)
	got = b.take(t, api.RedCheck, 5, 12, 2, top/2+1)
	fatalIf(t, !hasSerials(got, []int{top/2 + 2}) || got.Send[0].Lower != 0, "%v", got)
}

// Check numbers are whatever they are: in any order, at their limits.
func TestP134CheckNumbers(t *testing.T) {
	b := begin(t, usual().rules(1, 10))
	for i, check := range []int{5, top, 1, 4, 1 << 40, 2} {
		got := b.take(t, api.RedCheck, 10*i, 10*i+10, check)
		fatalIf(t, !hasSerials(got, []int{101 + i}) || got.Send[0].Check != check, "%d: %v", check, got)
	}
	for _, check := range []int{5, top, 1, 4, 1 << 40, 2} {
		b.wants(t, takes(b.m.seg(api.RedCheck, 0, 10, check)), api.Moves{})
	}
}

// Each type of checkpoint is answered; a check number is not one of bytes, and not one of a report.
func TestP134EachType(t *testing.T) {
	for _, kind := range []int{api.RedCheck, api.RedEnd, api.RedLast} {
		b := begin(t, usual())
		b.wants(t, takes(b.m.seg(kind, 3, 10, 101, 0)), brings(b.tells(101, 101, 0, 10, 3, 10)))
		fatalIf(t, (b.Red() == 10) != (kind != api.RedCheck), "type %d: Red %d", kind, b.Red())
	}
}

// Take of each verdict that is Over: twice the same, all that is shown is as it was, and what comes behind is as if it had not been.
func TestP134Over(t *testing.T) {
	o := usual().link(4096)
	b, _ := again(t, o, api.Incoming{Have: ones(0, 2000), Data: dataOf(ones(0, 2000)), Red: 4500})
	b.take(t, api.RedCheck, 0, 1, 1)
	before := shows(b.Import)
	for _, x := range []struct {
		x   api.Segment
		why int
	}{
		{o.seg(api.RedPlain, 4499, 4501), api.Miscolored},
		{o.seg(api.RedEnd, 4400, 4499, 9), api.Miscolored},
		{o.seg(api.GreenLast, 4499, 4501), api.Miscolored},
		{o.seg(api.RedCheck, 4200, 4201, 2), api.BySystem},
		{o.seg(api.RedEnd, 4400, 4500, 2), api.BySystem},
		{o.seg(api.RedCheck, 0, 1, 2), api.ByCycles},
	} {
		for range 3 {
			b.wants(t, takes(x.x), overFor(x.why))
			fatalIf(t, !shows(b.Import).same(before), "%v", shows(b.Import))
		}
	}
	b.take(t, api.RedPlain, 1, 2)
	got := b.take(t, api.RedCheck, 0, 1, 2)
	fatalIf(t, len(got.Send) != 1 || got.Over, "%v", got)
}
