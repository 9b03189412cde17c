package blocks_test

import (
	"slices"
	"testing"

	"lantern/api"
)

// What the chapter says, read a second time: room is found by counting up, bytes by counting them.

const (
	top   = api.MaxNum
	whole = api.MaxBlock
	limit = api.MaxSpans
)

var home = api.Session{Origin: 1, Number: 5}

func span(from, to int) api.Span { return api.Span{From: from, To: to} }

// spans makes a list of numbers, two a span.
func spans(l ...int) (s []api.Span) {
	for i := 0; i < len(l); i += 2 {
		s = append(s, span(l[i], l[i+1]))
	}
	return s
}

// comb is so many spans of one byte each, with one byte between.
func comb(from, n int) (l []api.Span) {
	for i := range n {
		l = append(l, span(from+2*i, from+2*i+1))
	}
	return l
}

// small is a parcel as in the chapter's examples.
func small(size, red, every int) api.Parcel {
	return api.Parcel{Service: 7, Size: size, Red: red, Mtu: 80, Every: every}
}

func same[T comparable](a, b []T) bool { return slices.Equal(a, b) }

// head is the first of some items: enough to tell which list it was.
func head[T any](l []T) []T { return l[:min(len(l), 8)] }

// digits is how many bytes a number has.
func digits(n int) int {
	k := 1
	for n > 127 {
		n /= 128
		k++
	}
	return k
}

func isCheckpoint(kind int) bool { return kind == 1 || kind == 2 || kind == 3 }

// length is how many bytes the segment of a piece has, if it has n bytes of data.
func length(s api.Session, p api.Parcel, x api.Piece, n int) int {
	k := 1 + digits(s.Origin) + digits(s.Number) + 1 + digits(p.Service) + digits(x.From) + digits(n) + n
	if isCheckpoint(x.Type) {
		k += digits(x.Check) + digits(x.Report)
	}
	return k
}

func roomFor(s api.Session, p api.Parcel, x api.Piece) int {
	n := p.Mtu - 60 // nothing but data has 52 bytes at most
	for length(s, p, x, n+1) <= p.Mtu {
		n++
	}
	return n
}

// checkType is the type of a checkpoint that ends there.
func checkType(p api.Parcel, to int) int {
	switch {
	case to < p.Red:
		return 1
	case p.Red < p.Size:
		return 2
	}
	return 3
}

// modelCut cuts as P4.1 says it, word by word.
func modelCut(s api.Session, p api.Parcel, base int) (l []api.Piece) {
	at, sinceLast, asked := 0, 0, 0
	for at < p.Red {
		left := p.Red - at
		x := api.Piece{Type: 1, From: at, Check: base + asked + 1}
		room := roomFor(s, p, x)
		if left <= room || p.Every > 0 && sinceLast == p.Every-1 {
			x.To = at + min(room, left)
			x.Type = checkType(p, x.To)
			asked++
			sinceLast = 0
		} else {
			x = api.Piece{From: at}
			x.To = at + min(roomFor(s, p, x), left-1)
			sinceLast++
		}
		l = append(l, x)
		at = x.To
	}
	for at < p.Size {
		x := api.Piece{Type: 4, From: at}
		x.To = at + min(roomFor(s, p, x), p.Size-at)
		if x.To == p.Size {
			x.Type = 7
		}
		l = append(l, x)
		at = x.To
	}
	return l
}

// modelAgain cuts gaps as P4.2 says it, word by word.
func modelAgain(s api.Session, p api.Parcel, gaps []api.Span, check, report int) (l []api.Piece) {
	for i, g := range gaps {
		last := i == len(gaps)-1
		for at := g.From; at < g.To; {
			left := g.To - at
			x := api.Piece{From: at}
			asking := api.Piece{Type: 1, From: at, Check: check, Report: report}
			switch {
			case !last:
				x.To = at + min(roomFor(s, p, x), left)
			case left <= roomFor(s, p, asking):
				x = asking
				x.To = g.To
				x.Type = checkType(p, x.To)
			default:
				x.To = at + min(roomFor(s, p, x), left-1)
			}
			l = append(l, x)
			at = x.To
		}
	}
	return l
}

// modelBuffer keeps every place by itself.
type modelBuffer struct {
	came    [whole]bool
	held    [whole]byte
	dropped bool
}

func (m *modelBuffer) have() (l []api.Span) {
	for i := 0; i < whole; i++ {
		if !m.came[i] {
			continue
		}
		if n := len(l); n > 0 && l[n-1].To == i {
			l[n-1].To++
		} else {
			l = append(l, span(i, i+1))
		}
	}
	return l
}

func (m *modelBuffer) put(at int, data []byte) (fresh, clash int, e api.Errno) {
	if len(data) > whole {
		return 0, 0, api.ErrLong
	}
	if len(data) == 0 || at < 0 || at > whole || at+len(data) > whole {
		return 0, 0, api.ErrArg
	}
	before := m.came
	for i := range data {
		m.came[at+i] = true
	}
	if len(m.have()) > limit {
		m.came = before
		return 0, 0, api.ErrBig
	}
	for i, c := range data {
		switch {
		case !before[at+i]:
			fresh++
			m.held[at+i] = c
		case !m.dropped && m.held[at+i] != c:
			clash++
		}
	}
	return fresh, clash, api.OK
}

func (m *modelBuffer) read(s api.Span) ([]byte, bool) {
	if m.dropped || s.From < 0 || s.From >= s.To || s.To > whole {
		return nil, false
	}
	if slices.Contains(m.came[s.From:s.To], false) {
		return nil, false
	}
	return m.held[s.From:s.To], true
}

func (m *modelBuffer) count() (n int) {
	for _, c := range m.came {
		if c && !m.dropped {
			n++
		}
	}
	return n
}

// noSession are sessions that may not be.
func noSession() []api.Session {
	return []api.Session{{Origin: 0, Number: 5}, {Origin: 1, Number: 0}, {Origin: -1, Number: 5}, {Origin: 1, Number: -1}, {Origin: top + 1, Number: 5}, {Origin: 1, Number: top}, {}}
}

// noParcel are parcels that may not be, each by one field.
func noParcel() (l []api.Parcel) {
	for _, change := range []func(p *api.Parcel){
		func(p *api.Parcel) { p.Service = -1 },
		func(p *api.Parcel) { p.Service = top + 1 },
		func(p *api.Parcel) { p.Size, p.Red = 0, 0 },
		func(p *api.Parcel) { p.Size = -1 },
		func(p *api.Parcel) { p.Size, p.Red = -1, -1 },
		func(p *api.Parcel) { p.Size = whole + 1 },
		func(p *api.Parcel) { p.Red = -1 },
		func(p *api.Parcel) { p.Red = p.Size + 1 },
		func(p *api.Parcel) { p.Mtu = api.MinMtu - 1 },
		func(p *api.Parcel) { p.Mtu = 0 },
		func(p *api.Parcel) { p.Mtu = api.MaxMtu + 1 },
		func(p *api.Parcel) { p.Every = -1 },
		func(p *api.Parcel) { p.Every = whole + 1 },
	} {
		p := small(100, 60, 2)
		change(&p)
		l = append(l, p)
	}
	return l
}

// numberless are numbers that may not be, from a lowest one on.
func numberless(least int) []int { return []int{least - 1, -1, -top, top + 1, 1<<63 - 1, -1 << 63} }

// ends are parcels at the limits of their fields, which may be.
func ends() []api.Parcel {
	return []api.Parcel{
		{Service: 0, Size: 1, Red: 0, Mtu: api.MinMtu},
		{Service: top, Size: 1, Red: 1, Mtu: api.MinMtu, Every: whole},
		{Service: top, Size: whole, Red: whole, Mtu: api.MinMtu, Every: 1},
		{Service: top, Size: whole, Red: 0, Mtu: api.MinMtu, Every: 1},
		{Service: 0, Size: whole, Red: whole, Mtu: api.MaxMtu, Every: 0},
		{Service: 0, Size: whole, Red: whole - 1, Mtu: api.MaxMtu, Every: whole},
		{Service: 128, Size: whole, Red: 1, Mtu: api.MaxMtu, Every: 1},
		{Service: 127, Size: whole, Red: whole / 2, Mtu: 137, Every: 3},
	}
}

func pattern(n int) []byte {
	b := make([]byte, n)
	for i := range b {
		b[i] = byte(i*7 + i/256)
	}
	return b
}

func fatalIf(t *testing.T, bad bool, words string, what ...any) {
	t.Helper()
	if bad {
		t.Fatalf(words, what...)
	}
}
