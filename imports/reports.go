package imports

import (
	"lantern/api"
	"lantern/report"
)

// reports are those that an import made.
type reports struct {
	session api.Session
	mtu     int
	base    int           // the first serial is one above it
	lowers  []int         // of all that were made, by their serials
	open    map[int]*made // those that are not acknowledged, by their serials
	known   marks         // the bytes that are in a claim of one that is acknowledged
}

// made is a report that is not acknowledged. It is out, if it does not wait: it does from the beginning on.
type made struct {
	report api.Report
	waits  bool
	late   int // how often Late sent it again
}

// serials are those from first on, up to but not including end.
type serials struct{ first, end int }

func newReports(s api.Session, mtu, base int) reports {
	return reports{session: s, mtu: mtu, base: base, open: map[int]*made{}}
}

// next is the serial of the next report.
func (l *reports) next() int { return l.base + 1 + len(l.lowers) }

// tell makes the reports of what came between two bounds.
func (l *reports) tell(have []api.Span, lower, upper, check int) (serials, []api.Segment) {
	first := l.next()
	// It refuses nothing: bounds and numbers may be, and serials begin so far below MaxNum that they do not end.
	all, _ := report.Make(l.session, l.mtu, have, lower, upper, check, first)
	send := make([]api.Segment, 0, len(all))
	for _, r := range all {
		x := &made{report: r}
		l.lowers = append(l.lowers, r.Lower)
		l.open[r.Serial] = x
		send = append(send, l.send(x))
	}
	return serials{first, l.next()}, send
}

// send is a report's segment; it waits till that has gone out.
func (l *reports) send(x *made) api.Segment {
	x.waits = true
	s, _ := report.Segment(l.session, x.report) // report.Make made it, so it may be
	return s
}

// again sends those of some reports once more that are due.
func (l *reports) again(some serials) []api.Segment {
	var send []api.Segment
	for serial := some.first; serial < some.end; serial++ {
		if x, due := l.due(serial); due {
			send = append(send, l.send(x))
		}
	}
	return send
}

// due is a report that has gone out, and of which nobody has said that it came.
func (l *reports) due(serial int) (*made, bool) {
	x, open := l.open[serial]
	if !open || x.waits {
		return nil, false
	}
	return x, true
}

// lower is the Lower of a report; 0, if there is none of that serial.
func (l *reports) lower(serial int) int {
	if serial <= l.base || serial >= l.next() {
		return 0
	}
	return l.lowers[serial-l.base-1]
}

// sent tells whether a report that is not acknowledged has gone out by that.
func (l *reports) sent(serial int) bool {
	x, open := l.open[serial]
	if !open || !x.waits {
		return false
	}
	x.waits = false
	return true
}

// ack tells whether a report is acknowledged by that. Nothing of it matters any more then but its Lower, and which bytes it claimed.
func (l *reports) ack(serial int) bool {
	x, open := l.open[serial]
	if !open {
		return false
	}
	for _, s := range x.report.Claims {
		l.known.add(s)
	}
	delete(l.open, serial)
	return true
}
