package segment_test

import (
	"bytes"
	"slices"

	"lantern/api"
)

// What the chapter says, once more and in another way than the package: pieces by name, with their limits.

// number is a number's bytes, by the words of chapter 1.
func number(n uint64) []byte {
	out := []byte{byte(n % 128)}
	for n /= 128; n > 0; n /= 128 {
		out = append([]byte{byte(n%128) + 128}, out...)
	}
	return out
}

// row joins bytes (ints below 256, each one byte) and rows of them.
func row(parts ...any) []byte {
	var out []byte
	for _, p := range parts {
		switch x := p.(type) {
		case int:
			out = append(out, byte(x))
		case []byte:
			out = append(out, x...)
		default:
			panic("neither a byte nor bytes")
		}
	}
	return out
}

// types are all that are one.
var types = []int{0, 1, 2, 3, 4, 7, 8, 9, 12, 13, 14, 15}

func isData(kind int) bool  { return slices.Contains([]int{0, 1, 2, 3, 4, 7}, kind) }
func isCheck(kind int) bool { return slices.Contains([]int{1, 2, 3}, kind) }

// model reads bytes as P2.2 says, and tells how many bytes it looked at till the end of the piece that was wrong.
func model(b []byte) (s api.Segment, e api.Errno, seen int) {
	if len(b) > api.MaxSegment {
		return s, api.ErrLong, 0
	}
	m := &modelReader{b: b}
	defer func() {
		if x := recover(); x != nil {
			s, e, seen = api.Segment{}, x.(api.Errno), m.at
		}
	}()
	s = m.segment()
	return s, api.OK, m.at
}

type modelReader struct {
	b  []byte
	at int
}

func (m *modelReader) octet() int {
	if m.at == len(m.b) {
		panic(api.ErrSegmentShort)
	}
	m.at++
	return int(m.b[m.at-1])
}

// number reads digits one by one; above 2^64 - 1 is told at the digit that leads there.
func (m *modelReader) number() int {
	var n uint64
	for first := true; ; first = false {
		c := m.octet()
		if first && c == 128 || n >= 1<<57 {
			panic(api.ErrSegmentNumber)
		}
		n = n*128 + uint64(c%128)
		if c < 128 {
			break
		}
	}
	if n > api.MaxNum {
		panic(api.ErrSegmentNumber)
	}
	return int(n)
}

func (m *modelReader) must(yes bool) {
	if !yes {
		panic(api.ErrSegmentField)
	}
}

func (m *modelReader) bytes(n int) []byte {
	var out []byte
	for range n {
		out = append(out, byte(m.octet()))
	}
	return out
}

func (m *modelReader) exts(n int) (l []api.Ext) {
	for range n {
		tag := m.octet()
		size := m.number()
		m.must(size <= 200)
		l = append(l, api.Ext{Tag: tag, Data: m.bytes(size)})
	}
	return l
}

func (m *modelReader) segment() (s api.Segment) {
	s.Type = m.octet()
	if !slices.Contains(types, s.Type) {
		panic(api.ErrSegmentHead)
	}
	s.Session.Origin = m.number()
	m.must(s.Session.Origin != 0)
	s.Session.Number = m.number()
	m.must(s.Session.Number != 0 && s.Session.Number != api.MaxNum)
	counts := m.octet()
	s.Head = m.exts(counts / 16)
	switch {
	case isData(s.Type):
		m.data(&s)
	case s.Type == 8:
		m.report(&s)
	case s.Type == 9:
		s.Report = m.number()
		m.must(s.Report != 0)
	case s.Type == 12 || s.Type == 14:
		s.Reason = m.octet()
		m.must(s.Reason < 6)
	}
	s.Tail = m.exts(counts % 16)
	if m.at < len(m.b) {
		panic(api.ErrSegmentExtra)
	}
	return s
}

func (m *modelReader) data(s *api.Segment) {
	s.Service = m.number()
	s.Offset = m.number()
	size := m.number()
	m.must(size != 0 && s.Offset+size <= 65536)
	if isCheck(s.Type) {
		s.Check = m.number()
		m.must(s.Check != 0)
		s.Report = m.number()
	}
	s.Data = m.bytes(size)
}

func (m *modelReader) report(s *api.Segment) {
	s.Report = m.number()
	m.must(s.Report != 0)
	s.Check = m.number()
	s.Upper = m.number()
	m.must(s.Upper != 0 && s.Upper <= 65536)
	s.Lower = m.number()
	m.must(s.Lower < s.Upper)
	count := m.number()
	m.must(count != 0 && count <= 1000)
	for i := range count {
		away := m.number()
		m.must(i == 0 || away > s.Claims[i-1].To-s.Lower)
		m.must(away < s.Upper-s.Lower)
		long := m.number()
		m.must(long != 0 && s.Lower+away+long <= s.Upper)
		s.Claims = append(s.Claims, api.Span{From: s.Lower + away, To: s.Lower + away + long})
	}
}

// same tells whether two segments are one; a list that is nil is one that is empty (W5).
func same(a, b api.Segment) bool {
	ext := func(x, y api.Ext) bool { return x.Tag == y.Tag && bytes.Equal(x.Data, y.Data) }
	return a.Type == b.Type && a.Session == b.Session && a.Service == b.Service && a.Offset == b.Offset &&
		a.Check == b.Check && a.Report == b.Report && a.Upper == b.Upper && a.Lower == b.Lower && a.Reason == b.Reason &&
		bytes.Equal(a.Data, b.Data) && slices.Equal(a.Claims, b.Claims) &&
		slices.EqualFunc(a.Head, b.Head, ext) && slices.EqualFunc(a.Tail, b.Tail, ext)
}

// copied is a segment of which nothing is shared.
func copied(s api.Segment) api.Segment {
	exts := func(l []api.Ext) (out []api.Ext) {
		for _, x := range l {
			out = append(out, api.Ext{Tag: x.Tag, Data: bytes.Clone(x.Data)})
		}
		return out
	}
	s.Head, s.Tail = exts(s.Head), exts(s.Tail)
	s.Data, s.Claims = bytes.Clone(s.Data), slices.Clone(s.Claims)
	return s
}
