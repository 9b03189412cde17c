package world

import "lantern/api"

// flight is a segment under way.
type flight struct {
	to    int // the engine to which it comes
	bytes []byte
}

// link is what lies between the engines.
type link struct {
	fates    []api.Event      // of what is sent from here on, one each
	underWay map[int][]flight // by the tick in which they come, in the order in which they were sent
}

// fate takes the next one.
func (l *link) fate() api.Event {
	if len(l.fates) == 0 {
		return api.Event{Kind: api.DoFate, B: 1, C: 1}
	}
	x := l.fates[0]
	l.fates = l.fates[1:]
	return x
}

// send sends bytes to an engine, as fate has it. (One that loses has no copies.)
func (l *link) send(tick, to int, b []byte) {
	x := l.fate()
	for range x.C {
		tick += x.B
		l.underWay[tick] = append(l.underWay[tick], flight{to, b})
	}
}

// arrive takes what comes in a tick.
func (l *link) arrive(tick int) []flight {
	come := l.underWay[tick]
	delete(l.underWay, tick)
	return come
}
