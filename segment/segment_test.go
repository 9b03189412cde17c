package segment_test

import (
	"bytes"
	"math"
	"math/rand"
	"slices"
	"testing"

	"lantern/api"
	"lantern/segment"
)

var five = api.Session{Origin: 1, Number: 5}

// plain is a segment of a type, with small fields, each of another value.
func plain(kind int) api.Segment {
	s := api.Segment{Type: kind, Session: five}
	switch {
	case isData(kind):
		s.Service, s.Offset, s.Data = 7, 3, []byte{9, 8}
		if isCheck(kind) {
			s.Check, s.Report = 11, 12
		}
	case kind == api.ReportType:
		s.Report, s.Check, s.Upper, s.Lower = 13, 14, 100, 10
		s.Claims = []api.Span{{From: 10, To: 20}, {From: 50, To: 100}}
	case kind == api.AckType:
		s.Report = 15
	case kind == api.CancelOut, kind == api.CancelIn:
		s.Reason = 3
	}
	return s
}

// with is a segment with something changed.
func with(s api.Segment, change func(*api.Segment)) api.Segment {
	change(&s)
	return s
}

// exts are so many extensions with so many bytes each.
func exts(count, size int) (l []api.Ext) {
	for i := range count {
		l = append(l, api.Ext{Tag: 255 - i, Data: bytes.Repeat([]byte{byte(i)}, size)})
	}
	return l
}

// dots are so many claims of a byte each, from a byte on, with a byte between.
func dots(from, count int) (l []api.Span) {
	for i := range count {
		l = append(l, api.Span{From: from + 2*i, To: from + 2*i + 1})
	}
	return l
}

// good are segments that may be: of every type, and at every limit.
func good() (l []api.Segment) {
	for _, kind := range types {
		p := plain(kind)
		l = append(l, p,
			with(p, func(s *api.Segment) { s.Session = api.Session{Origin: 1, Number: 1} }),
			with(p, func(s *api.Segment) { s.Session = api.Session{Origin: api.MaxNum, Number: api.MaxNum - 1} }),
			with(p, func(s *api.Segment) { s.Head = exts(1, 0) }),
			with(p, func(s *api.Segment) { s.Tail = exts(1, 0) }),
			with(p, func(s *api.Segment) { s.Head, s.Tail = exts(3, 2), exts(2, 3) }),
			with(p, func(s *api.Segment) { s.Head, s.Tail = exts(15, 200), exts(15, 200) }),
			with(p, func(s *api.Segment) { s.Head = []api.Ext{{Tag: 0}, {Tag: 255, Data: []byte{}}} }))
		if isData(kind) {
			l = append(l,
				with(p, func(s *api.Segment) { s.Service = 0; s.Offset = 0; s.Data = []byte{0} }),
				with(p, func(s *api.Segment) { s.Service = api.MaxNum; s.Offset = 65535; s.Data = []byte{255} }),
				with(p, func(s *api.Segment) { s.Offset = 65536 - 8000; s.Data = make([]byte, 8000) }))
		}
		if isCheck(kind) {
			l = append(l,
				with(p, func(s *api.Segment) { s.Check = 1; s.Report = 0 }),
				with(p, func(s *api.Segment) { s.Check = api.MaxNum; s.Report = api.MaxNum }))
		}
	}
	r := plain(api.ReportType)
	l = append(l,
		with(r, func(s *api.Segment) { s.Report = 1; s.Check = 0 }),
		with(r, func(s *api.Segment) { s.Report = api.MaxNum; s.Check = api.MaxNum }),
		with(r, func(s *api.Segment) { s.Upper = 1; s.Lower = 0; s.Claims = []api.Span{{From: 0, To: 1}} }),
		with(r, func(s *api.Segment) {
			s.Upper = 65536
			s.Lower = 65535
			s.Claims = []api.Span{{From: 65535, To: 65536}}
		}),
		with(r, func(s *api.Segment) { s.Upper = 65536; s.Lower = 0; s.Claims = []api.Span{{From: 0, To: 65536}} }),
		with(r, func(s *api.Segment) { s.Upper = 65536; s.Lower = 1; s.Claims = dots(1, 1000) }),
		with(r, func(s *api.Segment) { s.Upper = 65536; s.Lower = 0; s.Claims = dots(60000, 1000) }),
		with(r, func(s *api.Segment) {
			s.Upper = 9
			s.Lower = 5
			s.Claims = []api.Span{{From: 5, To: 6}, {From: 7, To: 9}}
		}))
	for reason := range 6 {
		l = append(l, api.Segment{Type: api.CancelOut, Session: five, Reason: reason}, api.Segment{Type: api.CancelIn, Session: five, Reason: reason})
	}
	for _, n := range []int{1, api.MaxNum - 1, api.MaxNum} {
		l = append(l, api.Segment{Type: api.AckType, Session: five, Report: n})
	}
	return l
}

// forms are segments and their bytes, written out by hand: P2.1's table.
func forms() []struct {
	s api.Segment
	b []byte
} {
	top := []byte{191, 255, 255, 255, 255, 255, 255, 255, 127} // MaxNum
	return []struct {
		s api.Segment
		b []byte
	}{
		{api.Segment{Type: 3, Session: five, Service: 7, Data: []byte{9, 9}, Check: 1}, row(3, 1, 5, 0, 7, 0, 2, 1, 0, 9, 9)},
		{api.Segment{Type: 4, Session: five, Service: 7, Offset: 300, Data: []byte{8}}, row(4, 1, 5, 0, 7, 130, 44, 1, 8)},
		{api.Segment{Type: 8, Session: five, Report: 200, Check: 1, Upper: 100, Lower: 10, Claims: []api.Span{{From: 10, To: 20}, {From: 50, To: 100}}},
			row(8, 1, 5, 0, 129, 72, 1, 100, 10, 2, 0, 10, 40, 50)},
		{api.Segment{Type: 14, Session: five, Reason: 3, Head: []api.Ext{{Tag: 192, Data: []byte{1, 2}}}}, row(14, 1, 5, 16, 192, 2, 1, 2, 3)},
		{api.Segment{Type: 13, Session: five}, row(13, 1, 5, 0)},
		{plain(0), row(0, 1, 5, 0, 7, 3, 2, 9, 8)},
		{plain(1), row(1, 1, 5, 0, 7, 3, 2, 11, 12, 9, 8)},
		{plain(2), row(2, 1, 5, 0, 7, 3, 2, 11, 12, 9, 8)},
		{plain(3), row(3, 1, 5, 0, 7, 3, 2, 11, 12, 9, 8)},
		{plain(4), row(4, 1, 5, 0, 7, 3, 2, 9, 8)},
		{plain(7), row(7, 1, 5, 0, 7, 3, 2, 9, 8)},
		{plain(8), row(8, 1, 5, 0, 13, 14, 100, 10, 2, 0, 10, 40, 50)},
		{plain(9), row(9, 1, 5, 0, 15)},
		{plain(12), row(12, 1, 5, 0, 3)},
		{plain(13), row(13, 1, 5, 0)},
		{plain(14), row(14, 1, 5, 0, 3)},
		{plain(15), row(15, 1, 5, 0)},
		{api.Segment{Type: 15, Session: api.Session{Origin: 300, Number: 128}}, row(15, 130, 44, 129, 0, 0)},
		{api.Segment{Type: 9, Session: api.Session{Origin: api.MaxNum, Number: api.MaxNum - 1}, Report: api.MaxNum}, row(9, top, top[:8], 126, 0, top)},
		{with(plain(1), func(s *api.Segment) {
			s.Head = []api.Ext{{Tag: 1, Data: []byte{2}}, {Tag: 3}}
			s.Tail = []api.Ext{{Tag: 4}, {Tag: 5, Data: []byte{6, 7}}, {Tag: 255, Data: make([]byte, 200)}}
		}), row(1, 1, 5, 0x23, 1, 1, 2, 3, 0, 7, 3, 2, 11, 12, 9, 8, 4, 0, 5, 2, 6, 7, 255, 129, 72, make([]byte, 200))},
		{with(plain(13), func(s *api.Segment) { s.Head, s.Tail = exts(15, 0), exts(15, 0) }),
			row(13, 1, 5, 255, 255, 0, 254, 0, 253, 0, 252, 0, 251, 0, 250, 0, 249, 0, 248, 0, 247, 0, 246, 0, 245, 0, 244, 0, 243, 0, 242, 0, 241, 0,
				255, 0, 254, 0, 253, 0, 252, 0, 251, 0, 250, 0, 249, 0, 248, 0, 247, 0, 246, 0, 245, 0, 244, 0, 243, 0, 242, 0, 241, 0)},
	}
}

func TestP21Forms(t *testing.T) {
	for _, x := range forms() {
		if e := segment.Right(x.s); e != api.OK {
			t.Errorf("Right of %v: %d", x.s, e)
		}
		if b, e := segment.Print(x.s); e != api.OK || !bytes.Equal(b, x.b) {
			t.Errorf("Print of %v: %v, %d, not %v", x.s, b, e, x.b)
		}
		if s, e := segment.Parse(x.b); e != api.OK || !same(s, x.s) {
			t.Errorf("Parse of %v: %v, %d, not %v", x.b, s, e, x.s)
		}
	}
}

// refused holds Right and Print against an error.
func refused(t *testing.T, s api.Segment, want api.Errno) {
	t.Helper()
	if e := segment.Right(s); e != want {
		t.Errorf("Right of %.200v: %d, not %d", s, e, want)
	}
	if b, e := segment.Print(s); e != want || want != api.OK && len(b) != 0 || want == api.OK && len(b) == 0 {
		t.Errorf("Print of %.200v: %.20v, %d, not %d", s, b, e, want)
	}
}

func TestP21Types(t *testing.T) {
	for kind := -300; kind <= 300; kind++ {
		if slices.Contains(types, kind) {
			refused(t, plain(kind), api.OK)
			continue
		}
		// ErrSegmentHead goes ahead of what else is wrong.
		refused(t, api.Segment{Type: kind, Session: five}, api.ErrSegmentHead)
		refused(t, api.Segment{Type: kind, Reason: 9, Head: exts(16, 201), Data: make([]byte, 9000)}, api.ErrSegmentHead)
	}
	for _, kind := range []int{math.MinInt, math.MaxInt, 1 << 32, 256, 1<<32 + 9} {
		refused(t, api.Segment{Type: kind, Session: five}, api.ErrSegmentHead)
	}
}

// field is a number of a segment.
type field struct {
	name string
	of   func(*api.Segment) *int
}

func fields() []field {
	return []field{
		{"Origin", func(s *api.Segment) *int { return &s.Session.Origin }},
		{"Number", func(s *api.Segment) *int { return &s.Session.Number }},
		{"Service", func(s *api.Segment) *int { return &s.Service }},
		{"Offset", func(s *api.Segment) *int { return &s.Offset }},
		{"Check", func(s *api.Segment) *int { return &s.Check }},
		{"Report", func(s *api.Segment) *int { return &s.Report }},
		{"Upper", func(s *api.Segment) *int { return &s.Upper }},
		{"Lower", func(s *api.Segment) *int { return &s.Lower }},
		{"Reason", func(s *api.Segment) *int { return &s.Reason }},
	}
}

// limits are what a field of a plain segment may be: 0 alone, if its type has it not.
func limits(kind int, name string) (low, high int) {
	switch {
	case name == "Origin":
		return 1, api.MaxNum
	case name == "Number":
		return 1, api.MaxNum - 1
	case isData(kind) && name == "Service":
		return 0, api.MaxNum
	case isData(kind) && name == "Offset":
		return 0, 65536 - 2
	case isCheck(kind) && name == "Check":
		return 1, api.MaxNum
	case isCheck(kind) && name == "Report":
		return 0, api.MaxNum
	case kind == 8 && name == "Report", kind == 9 && name == "Report":
		return 1, api.MaxNum
	case kind == 8 && name == "Check":
		return 0, api.MaxNum
	case kind == 8 && name == "Upper": // its last claim goes to 100
		return 100, 65536
	case kind == 8 && name == "Lower": // its first claim begins at 10
		return 0, 10
	case (kind == 12 || kind == 14) && name == "Reason":
		return 0, 5
	}
	return 0, 0
}

func TestP21Numbers(t *testing.T) {
	for _, kind := range types {
		for _, f := range fields() {
			low, high := limits(kind, f.name)
			for _, n := range []int{math.MinInt, -api.MaxNum, -256, -1, 0, 1, 2, 3, 5, 6, 9, 10, 11, 99, 100, 101, 256, 65534, 65535, 65536, 65537,
				1 << 32, api.MaxNum - 1, api.MaxNum, api.MaxNum + 1, math.MaxInt} {
				want := api.ErrSegmentField
				if low <= n && n <= high {
					want = api.OK
				}
				s := with(plain(kind), func(s *api.Segment) { *f.of(s) = n })
				if e := segment.Right(s); e != want {
					t.Errorf("type %d with the %s %d: Right %d, not %d", kind, f.name, n, e, want)
				}
				refused(t, s, want)
			}
		}
	}
}

func TestP21Lists(t *testing.T) {
	for _, kind := range types {
		p := plain(kind)
		data, claims := api.OK, api.OK
		if !isData(kind) {
			data = api.ErrSegmentField
		}
		if kind != api.ReportType {
			claims = api.ErrSegmentField
		}
		refused(t, with(p, func(s *api.Segment) { s.Data = []byte{0} }), data)
		refused(t, with(p, func(s *api.Segment) { s.Claims = []api.Span{{From: 20, To: 30}} }), claims)
		refused(t, with(p, func(s *api.Segment) { s.Claims = []api.Span{{}} }), api.ErrSegmentField)
		// A list without items is none, be it nil or not (W5).
		empty := api.ErrSegmentField
		if !isData(kind) {
			empty = api.OK
		}
		refused(t, with(p, func(s *api.Segment) { s.Data = nil }), empty)
		refused(t, with(p, func(s *api.Segment) { s.Data = []byte{} }), empty)
		empty = api.OK
		if kind == api.ReportType {
			empty = api.ErrSegmentField
		}
		refused(t, with(p, func(s *api.Segment) { s.Claims = nil }), empty)
		refused(t, with(p, func(s *api.Segment) { s.Claims = []api.Span{} }), empty)
	}
}

func TestP21Extensions(t *testing.T) {
	for _, kind := range types {
		p := plain(kind)
		for _, place := range []func(*api.Segment) *[]api.Ext{
			func(s *api.Segment) *[]api.Ext { return &s.Head },
			func(s *api.Segment) *[]api.Ext { return &s.Tail },
		} {
			for _, x := range []struct {
				l []api.Ext
				e api.Errno
			}{
				{exts(15, 200), api.OK},
				{exts(16, 0), api.ErrSegmentField},
				{exts(17, 0), api.ErrSegmentField},
				{exts(271, 0), api.ErrSegmentField},
				{exts(15, 201), api.ErrSegmentField},
				{[]api.Ext{{Tag: 1}, {Tag: 2, Data: make([]byte, 201)}}, api.ErrSegmentField},
				{[]api.Ext{{Tag: 1}, {Tag: 256}}, api.ErrSegmentField},
				{[]api.Ext{{Tag: -1}, {Tag: 2}}, api.ErrSegmentField},
				{[]api.Ext{{Tag: math.MinInt}}, api.ErrSegmentField},
				{[]api.Ext{{Tag: math.MaxInt}}, api.ErrSegmentField},
				{[]api.Ext{{Tag: 0}, {Tag: 255}}, api.OK},
			} {
				refused(t, with(p, func(s *api.Segment) { *place(s) = x.l }), x.e)
			}
		}
	}
}

func TestP21Blocks(t *testing.T) {
	for _, x := range []struct {
		offset, size int
		e            api.Errno
	}{
		{0, 1, api.OK}, {65535, 1, api.OK}, {65536, 1, api.ErrSegmentField}, {65535, 2, api.ErrSegmentField}, {65534, 2, api.OK},
		{65536, 0, api.ErrSegmentField}, {0, 0, api.ErrSegmentField}, {api.MaxNum, 1, api.ErrSegmentField}, {math.MaxInt, 1, api.ErrSegmentField}, {-1, 1, api.ErrSegmentField},
		{0, 65536, api.ErrBig}, {0, 65537, api.ErrSegmentField}, {1, 65536, api.ErrSegmentField}, {1, 65535, api.ErrBig},
		{-1, 65537, api.ErrSegmentField},
	} {
		for _, kind := range []int{0, 1, 2, 3, 4, 7} {
			refused(t, with(plain(kind), func(s *api.Segment) { s.Offset, s.Data = x.offset, make([]byte, x.size) }), x.e)
		}
	}
}

func TestP21Claims(t *testing.T) {
	for _, x := range []struct {
		lower, upper int
		l            []api.Span
		e            api.Errno
	}{
		{10, 20, []api.Span{{From: 10, To: 20}}, api.OK},
		{10, 20, []api.Span{{From: 9, To: 20}}, api.ErrSegmentField},
		{10, 20, []api.Span{{From: 10, To: 21}}, api.ErrSegmentField},
		{10, 20, []api.Span{{From: 12, To: 12}}, api.ErrSegmentField},
		{10, 20, []api.Span{{From: 13, To: 12}}, api.ErrSegmentField},
		{10, 20, []api.Span{{From: 20, To: 20}}, api.ErrSegmentField},
		{10, 20, []api.Span{{From: 20, To: 21}}, api.ErrSegmentField},
		{10, 20, []api.Span{{From: 10, To: 12}, {From: 13, To: 20}}, api.OK},
		{10, 20, []api.Span{{From: 10, To: 12}, {From: 12, To: 20}}, api.ErrSegmentField}, // they touch
		{10, 20, []api.Span{{From: 10, To: 12}, {From: 11, To: 20}}, api.ErrSegmentField},
		{10, 20, []api.Span{{From: 15, To: 20}, {From: 10, To: 12}}, api.ErrSegmentField},
		{10, 20, []api.Span{{From: 10, To: 12}, {From: 10, To: 12}}, api.ErrSegmentField},
		{10, 20, []api.Span{{From: 10, To: 12}, {From: 13, To: 14}, {From: 14, To: 15}}, api.ErrSegmentField},
		{10, 20, []api.Span{{From: 10, To: 20}, {From: 21, To: 22}}, api.ErrSegmentField},
		{0, 20, []api.Span{{From: -1, To: 2}}, api.ErrSegmentField},
		{0, 20, []api.Span{{From: math.MinInt, To: 2}}, api.ErrSegmentField},
		{0, 20, []api.Span{{From: 1, To: math.MaxInt}}, api.ErrSegmentField},
		{0, 20, []api.Span{{From: 1, To: math.MinInt}}, api.ErrSegmentField},
		{0, 20, []api.Span{{From: 1, To: math.MaxInt}, {From: math.MinInt, To: 3}}, api.ErrSegmentField},
		{0, 65536, dots(0, 999), api.OK},
		{0, 65536, dots(0, 1000), api.OK},
		{0, 65536, dots(0, 1001), api.ErrSegmentField},
		{0, 65536, dots(0, 30000), api.ErrSegmentField},
		{0, 0, []api.Span{{From: 0, To: 1}}, api.ErrSegmentField},
		{20, 20, []api.Span{{From: 20, To: 21}}, api.ErrSegmentField},
		{65536, 65537, []api.Span{{From: 65536, To: 65537}}, api.ErrSegmentField},
		{-1, 20, []api.Span{{From: 0, To: 1}}, api.ErrSegmentField},
	} {
		refused(t, with(plain(8), func(s *api.Segment) { s.Lower, s.Upper, s.Claims = x.lower, x.upper, x.l }), x.e)
	}
}

func TestP21Big(t *testing.T) {
	// Ahead of Data stand: the type, the session in two bytes, the count, Service, Offset, Data's length in two.
	head := 1 + 2 + 1 + 1 + 1 + 2
	for _, kind := range []int{0, 4, 7} {
		s := plain(kind)
		s.Data = make([]byte, api.MaxSegment-head)
		refused(t, s, api.OK)
		if b, _ := segment.Print(s); len(b) != api.MaxSegment {
			t.Errorf("type %d: %d bytes, not MaxSegment", kind, len(b))
		}
		refused(t, with(s, func(s *api.Segment) { s.Data = make([]byte, api.MaxSegment-head+1) }), api.ErrBig)
		refused(t, with(s, func(s *api.Segment) { s.Tail = exts(1, 0) }), api.ErrBig)
		// A field that may not be goes ahead of ErrBig.
		refused(t, with(s, func(s *api.Segment) { s.Tail = exts(1, 201) }), api.ErrSegmentField)
		refused(t, with(s, func(s *api.Segment) { s.Tail, s.Reason = exts(1, 0), 1 }), api.ErrSegmentField)
	}
	r := with(plain(8), func(s *api.Segment) { s.Lower, s.Upper, s.Claims = 0, 65536, dots(60000, 1000) })
	r.Head, r.Tail = exts(15, 200), exts(5, 200)
	b, e := segment.Print(r)
	if e != api.OK {
		t.Fatalf("Print of a report with many extensions: %d", e)
	}
	left := api.MaxSegment - len(b)
	for left > 202 {
		r.Tail = append(r.Tail, api.Ext{Tag: 1, Data: make([]byte, 100)})
		left -= 102
	}
	r.Tail = append(r.Tail, api.Ext{Tag: 1, Data: make([]byte, left-2)})
	if left-2 > 127 {
		r.Tail[len(r.Tail)-1].Data = make([]byte, left-3)
	}
	refused(t, r, api.OK)
	if b, _ := segment.Print(r); len(b) != api.MaxSegment {
		t.Errorf("a report of %d bytes, not MaxSegment", len(b))
	}
	refused(t, with(r, func(s *api.Segment) { s.Service = 1 }), api.ErrSegmentField)
	refused(t, with(r, func(s *api.Segment) { s.Session.Number = 128 }), api.ErrBig)
}

func TestP22Faults(t *testing.T) {
	maxNum, above := number(api.MaxNum), number(api.MaxNum+1)
	report := []byte{8, 1, 5, 0, 1, 0}
	for _, x := range []struct {
		b []byte
		e api.Errno
	}{
		{nil, api.ErrSegmentShort}, {[]byte{}, api.ErrSegmentShort}, {row(3, 1, 5), api.ErrSegmentShort}, {row(3), api.ErrSegmentShort}, {row(3, 129), api.ErrSegmentShort},
		{row(5, 1, 5, 0), api.ErrSegmentHead}, {row(6, 1, 5, 0), api.ErrSegmentHead}, {row(10), api.ErrSegmentHead}, {row(11, 0), api.ErrSegmentHead},
		{row(19, 1, 5, 0), api.ErrSegmentHead}, {row(16), api.ErrSegmentHead}, {row(0x8d, 1, 5, 0), api.ErrSegmentHead}, {row(255), api.ErrSegmentHead},
		// The session.
		{row(9, 0), api.ErrSegmentField}, {row(9, 128, 1), api.ErrSegmentNumber}, {row(9, 128), api.ErrSegmentNumber}, {row(9, above), api.ErrSegmentNumber}, {row(9, maxNum), api.ErrSegmentShort},
		{row(9, number(math.MaxUint64)), api.ErrSegmentNumber}, {row(9, 130, bytes.Repeat([]byte{128}, 9)), api.ErrSegmentNumber}, {row(9, 130, bytes.Repeat([]byte{128}, 8)), api.ErrSegmentShort},
		{row(9, 1, 0), api.ErrSegmentField}, {row(9, 1, maxNum), api.ErrSegmentField}, {row(9, 1, above), api.ErrSegmentNumber}, {row(9, 1, number(api.MaxNum-1)), api.ErrSegmentShort},
		// Extensions.
		{row(13, 1, 5, 0, 0), api.ErrSegmentExtra}, {row(13, 1, 5, 16), api.ErrSegmentShort}, {row(13, 1, 5, 16, 7), api.ErrSegmentShort}, {row(13, 1, 5, 16, 7, 1), api.ErrSegmentShort},
		{row(13, 1, 5, 16, 7, 129, 73), api.ErrSegmentField}, {row(13, 1, 5, 1, 7, 129, 73), api.ErrSegmentField}, {row(13, 1, 5, 1, 7, 129, 72), api.ErrSegmentShort}, {row(13, 1, 5, 1, 7, 128, 0), api.ErrSegmentNumber},
		{row(13, 1, 5, 1, 7, maxNum), api.ErrSegmentField}, {row(13, 1, 5, 1, 7, above), api.ErrSegmentNumber}, {row(13, 1, 5, 0x21, 7, 0, 7, 0), api.ErrSegmentShort}, {row(13, 1, 5, 0x11, 7, 0, 7, 0, 0), api.ErrSegmentExtra},
		// Data.
		{row(0, 1, 5, 0, above), api.ErrSegmentNumber}, {row(0, 1, 5, 0, maxNum), api.ErrSegmentShort}, {row(0, 1, 5, 0, 7, maxNum), api.ErrSegmentShort}, {row(0, 1, 5, 0, 7, above), api.ErrSegmentNumber},
		{row(0, 1, 5, 0, 7, maxNum, 1), api.ErrSegmentField}, {row(0, 1, 5, 0, 7, maxNum, maxNum), api.ErrSegmentField}, {row(0, 1, 5, 0, 7, maxNum, above), api.ErrSegmentNumber}, {row(0, 1, 5, 0, 7, maxNum, 129), api.ErrSegmentShort},
		{row(0, 1, 5, 0, 7, number(65536)), api.ErrSegmentShort}, {row(0, 1, 5, 0, 7, number(65536), 0), api.ErrSegmentField}, {row(0, 1, 5, 0, 7, number(65536), 1), api.ErrSegmentField},
		{row(0, 1, 5, 0, 7, number(65535), 1), api.ErrSegmentShort}, {row(0, 1, 5, 0, 7, number(65535), 2), api.ErrSegmentField}, {row(0, 1, 5, 0, 7, 0, 0), api.ErrSegmentField},
		{row(0, 1, 5, 0, 7, 0, number(65536)), api.ErrSegmentShort}, {row(0, 1, 5, 0, 7, 0, number(65537)), api.ErrSegmentField}, {row(0, 1, 5, 0, 7, 0, 2, 9), api.ErrSegmentShort}, {row(0, 1, 5, 0, 7, 0, 2, 9, 9, 9), api.ErrSegmentExtra},
		{row(3, 1, 5, 0, 7, 0, 0), api.ErrSegmentField}, {row(3, 1, 5, 0, 7, 0, 2, 0), api.ErrSegmentField}, {row(3, 1, 5, 0, 7, 0, 2, above), api.ErrSegmentNumber}, {row(3, 1, 5, 0, 7, 0, 2, maxNum, above), api.ErrSegmentNumber},
		{row(3, 1, 5, 0, 7, 0, 2, maxNum, maxNum), api.ErrSegmentShort}, {row(3, 1, 5, 0, 7, 0, 2, 1, 0, 9), api.ErrSegmentShort}, {row(3, 1, 5, 0, 7, 0, 2, 1), api.ErrSegmentShort},
		// Reports.
		{row(8, 1, 5, 0, 0), api.ErrSegmentField}, {row(8, 1, 5, 0, above), api.ErrSegmentNumber}, {row(8, 1, 5, 0, 1, above), api.ErrSegmentNumber}, {row(8, 1, 5, 0, 1, 0), api.ErrSegmentShort},
		{row(report, 0), api.ErrSegmentField}, {row(report, number(65536)), api.ErrSegmentShort}, {row(report, number(65537)), api.ErrSegmentField}, {row(report, above), api.ErrSegmentNumber},
		{row(report, 10, 10), api.ErrSegmentField}, {row(report, 10, 9), api.ErrSegmentShort}, {row(report, 10, 11), api.ErrSegmentField}, {row(report, 10, 0, 0), api.ErrSegmentField},
		{row(report, 10, 0, number(1000)), api.ErrSegmentShort}, {row(report, 10, 0, number(1001)), api.ErrSegmentField}, {row(report, 10, 0, maxNum), api.ErrSegmentField}, {row(report, 10, 0, above), api.ErrSegmentNumber},
		{row(report, 10, 0, 1, 10), api.ErrSegmentField}, {row(report, 10, 0, 1, 9), api.ErrSegmentShort}, {row(report, 10, 3, 1, 7), api.ErrSegmentField}, {row(report, 10, 3, 1, 6), api.ErrSegmentShort},
		{row(report, 10, 0, 1, 9, 2), api.ErrSegmentField}, {row(report, 10, 0, 1, 9, 0), api.ErrSegmentField}, {row(report, 10, 0, 1, 9, maxNum), api.ErrSegmentField}, {row(report, 10, 0, 1, 9, above), api.ErrSegmentNumber},
		{row(report, 10, 0, 1, maxNum), api.ErrSegmentField}, {row(report, 10, 0, 1, above), api.ErrSegmentNumber}, {row(report, 10, 3, 1, 0, 8), api.ErrSegmentField}, {row(report, 10, 3, 1, 0, 7, 0), api.ErrSegmentExtra},
		{row(report, 10, 0, 2, 0, 5, 5), api.ErrSegmentField}, {row(report, 10, 0, 2, 0, 5, 4), api.ErrSegmentField}, {row(report, 10, 0, 2, 0, 5, 0), api.ErrSegmentField}, {row(report, 10, 0, 2, 0, 5, 6), api.ErrSegmentShort},
		{row(report, 10, 3, 2, 1, 2, 3), api.ErrSegmentField}, {row(report, 10, 3, 2, 1, 2, 4), api.ErrSegmentShort}, {row(report, 10, 0, 2, 0, 10), api.ErrSegmentShort}, {row(report, 10, 0, 2, 0, 10, 11), api.ErrSegmentField},
		{row(report, 1, 0, 2), api.ErrSegmentShort}, // that so many have no room is told at the claims
		// Acknowledgements and cancellations.
		{row(9, 1, 5, 0, 0), api.ErrSegmentField}, {row(9, 1, 5, 0, above), api.ErrSegmentNumber}, {row(9, 1, 5, 0), api.ErrSegmentShort},
		{row(12, 1, 5, 0, 6), api.ErrSegmentField}, {row(14, 1, 5, 0, 255), api.ErrSegmentField}, {row(12, 1, 5, 0), api.ErrSegmentShort}, {row(12, 1, 5, 0, 5, 0), api.ErrSegmentExtra},
		{row(15, 1, 5, 0, 1), api.ErrSegmentExtra},
		{make([]byte, 8193), api.ErrLong}, {bytes.Repeat([]byte{255}, 8193), api.ErrLong}, {bytes.Repeat([]byte{255}, 8192), api.ErrSegmentHead},
	} {
		s, e := segment.Parse(x.b)
		if e != x.e || !same(s, api.Segment{}) {
			t.Errorf("Parse of %.40v: %v, %d, not %d", x.b, s, e, x.e)
		}
		if _, m, _ := model(x.b); m != x.e {
			t.Errorf("the model of %.40v: %d, not %d", x.b, m, x.e)
		}
	}
}

// agrees holds Parse against the model.
func agrees(t *testing.T, b []byte) {
	t.Helper()
	s, e := segment.Parse(b)
	want, fault, _ := model(b)
	if e != fault || !same(s, want) {
		t.Fatalf("Parse of %.60v: %.60v, %d, not %.60v, %d", b, s, e, want, fault)
	}
	if e == api.OK {
		if c, e := segment.Print(s); e != api.OK || !bytes.Equal(b, c) {
			t.Fatalf("Print of Parse of %.60v: %.60v, %d", b, c, e)
		}
	}
}

// changed is a row with something changed: a byte, a row put in, some taken out.
func changed(r *rand.Rand, b []byte) []byte {
	odd := [][]byte{{0}, {1}, {127}, {128}, {128, 1}, {255}, number(65535), number(65536), number(65537), number(api.MaxNum), number(api.MaxNum + 1), number(math.MaxUint64),
		number(200), number(201), number(1000), number(1001), bytes.Repeat([]byte{255}, 11)}
	b = bytes.Clone(b)
	at := r.Intn(min(len(b), 30) + 1)
	switch r.Intn(5) {
	case 0:
		return slices.Insert(b, at, odd[r.Intn(len(odd))]...)
	case 1:
		return b[:at]
	case 2:
		return append(b, byte(r.Intn(256)))
	}
	if at < len(b) {
		b = slices.Replace(b, at, at+1, odd[r.Intn(len(odd))]...)
		if r.Intn(2) == 0 {
			b[at] = byte(r.Intn(256))
		}
	}
	return b
}

func TestP22AnyBytes(t *testing.T) {
	r := rand.New(rand.NewSource(2))
	for a := range 256 {
		agrees(t, row(a))
		for b := range 256 {
			agrees(t, row(a, b))
			agrees(t, row(a%16, 1, 5, b, 1, 1))
			agrees(t, row(a%16, 1, 5, 0, b, 1, 1, 1, 1, 1))
			agrees(t, row(8, 1, 5, 0, 1, 1, a, b, 1, 0, 1))
			agrees(t, row(8, 1, 5, 0, 1, 1, 20, 3, 2, 5, 5, a, b))
			agrees(t, row(8, 1, 5, 0, 1, 1, 20, 3, 1, a, b))
		}
	}
	for _, s := range good() {
		b, _ := segment.Print(s)
		for range 60 {
			agrees(t, changed(r, b))
			agrees(t, changed(r, changed(r, b)))
		}
	}
	for range 20000 {
		b := make([]byte, r.Intn(24))
		for i := range b {
			b[i] = byte(r.Intn(6))
		}
		agrees(t, b)
	}
}

func FuzzParse(f *testing.F) {
	for _, x := range forms() {
		f.Add(x.b)
	}
	f.Fuzz(func(t *testing.T, b []byte) { agrees(t, b) })
}

// fill writes over a list's items and its spare room.
func fill[T any](l []T, x T) {
	l = l[:cap(l)]
	for i := range l {
		l[i] = x
	}
}

// roomy is a copy of a segment whose lists have spare room.
func roomy(s api.Segment) api.Segment {
	s = copied(s)
	s.Data = append(make([]byte, 0, len(s.Data)+64), s.Data...)
	s.Claims = append(make([]api.Span, 0, len(s.Claims)+8), s.Claims...)
	s.Head = append(make([]api.Ext, 0, len(s.Head)+8), s.Head...)
	s.Tail = append(make([]api.Ext, 0, len(s.Tail)+8), s.Tail...)
	for _, l := range [][]api.Ext{s.Head, s.Tail} {
		for i, x := range l {
			l[i].Data = append(make([]byte, 0, len(x.Data)+64), x.Data...)
		}
	}
	return s
}

// whole is a segment whose lists go to the end of their room.
func whole(s api.Segment) api.Segment {
	widen := func(l []api.Ext) (out []api.Ext) {
		for _, x := range l[:cap(l)] {
			out = append(out, api.Ext{Tag: x.Tag, Data: x.Data[:cap(x.Data)]})
		}
		return out
	}
	s.Head, s.Tail = widen(s.Head), widen(s.Tail)
	s.Data, s.Claims = s.Data[:cap(s.Data)], s.Claims[:cap(s.Claims)]
	return s
}

// scribble writes over all that a segment's lists have, and over their room.
func scribble(s api.Segment) {
	fill(s.Data, 77)
	fill(s.Claims, api.Span{From: 77, To: 78})
	for _, l := range [][]api.Ext{s.Head, s.Tail} {
		for _, x := range l[:cap(l)] {
			fill(x.Data, 77)
		}
		fill(l, api.Ext{Tag: 77})
	}
}

func TestP23PrintsMemory(t *testing.T) {
	for _, s := range good() {
		in := roomy(s)
		before := copied(whole(in))
		b, e := segment.Print(in)
		if e != api.OK {
			t.Fatalf("Print of %.60v: %d", s, e)
		}
		want := bytes.Clone(b)
		again, _ := segment.Print(in)
		fill(b, 99)
		if !same(whole(in), before) || !bytes.Equal(again, want) {
			t.Fatalf("Print of %.60v: what is answered shares memory", s)
		}
		scribble(in)
		if !bytes.Equal(again, want) {
			t.Fatalf("Print of %.60v: the answer hangs on what was handed in", s)
		}
		in = roomy(s)
		segment.Right(in)
		if !same(whole(in), before) {
			t.Fatalf("Right of %.60v changes it", s)
		}
	}
}

// lists are all lists of bytes of a segment.
func lists(s api.Segment) [][]byte {
	out := [][]byte{s.Data}
	for _, l := range [][]api.Ext{s.Head, s.Tail} {
		for _, x := range l {
			out = append(out, x.Data)
		}
	}
	return out
}

func TestP23ParsesMemory(t *testing.T) {
	for _, want := range good() {
		b, _ := segment.Print(want)
		in := append(make([]byte, 0, len(b)+64), b...)
		s, _ := segment.Parse(in)
		other, _ := segment.Parse(in)
		fill(in, 99)
		if !same(s, want) {
			t.Fatalf("Parse of %.60v: the answer hangs on what was handed in", b)
		}
		copy(in, b)
		clear(in[len(b):cap(in)])
		// No list of the answer may reach into another one, nor by its spare room.
		for i := range lists(s) {
			fill(lists(s)[i], 88)
			for j, l := range lists(s) {
				if j > i && !bytes.Equal(l, lists(want)[j]) {
					t.Fatalf("Parse of %.60v: two lists share memory", b)
				}
			}
		}
		scribble(s)
		if !bytes.Equal(in, b) || bytes.ContainsFunc(in[len(b):cap(in)], func(r rune) bool { return r != 0 }) || !same(other, want) {
			t.Fatalf("Parse of %.60v: what is answered shares memory", b)
		}
	}
	// Head and Tail are two lists, too.
	s, _ := segment.Parse(row(13, 1, 5, 0x11, 1, 0, 2, 0))
	fill(s.Head, api.Ext{Tag: 5})
	if len(s.Tail) != 1 || s.Tail[0].Tag != 2 {
		t.Error("Head and Tail share memory")
	}
	s, _ = segment.Parse(row(13, 1, 5, 0x11, 1, 0, 2, 0))
	fill(s.Tail, api.Ext{Tag: 5})
	if len(s.Head) != 1 || s.Head[0].Tag != 1 {
		t.Error("Tail and Head share memory")
	}
}

// anySegment is a segment that may be, of any type.
func anySegment(r *rand.Rand) api.Segment {
	size := func() int { return r.Intn(1 << r.Intn(62)) }
	list := func() (l []api.Ext) {
		for range r.Intn(4) {
			x := api.Ext{Tag: r.Intn(256), Data: make([]byte, r.Intn(201))}
			r.Read(x.Data)
			l = append(l, x)
		}
		return l
	}
	s := api.Segment{Type: types[r.Intn(len(types))], Session: api.Session{Origin: size() + 1, Number: size() + 1}, Head: list(), Tail: list()}
	if isData(s.Type) {
		s.Service, s.Data = size(), make([]byte, 1+r.Intn(3000))
		r.Read(s.Data)
		s.Offset = r.Intn(65537 - len(s.Data))
	}
	if isCheck(s.Type) {
		s.Check, s.Report = 1+size(), size()
	}
	switch s.Type {
	case 8:
		s.Report, s.Check, s.Upper = 1+size(), size(), 1+r.Intn(65536)
		s.Lower = r.Intn(s.Upper)
		from := s.Lower + r.Intn(s.Upper-s.Lower)
		for from < s.Upper && len(s.Claims) < 1+r.Intn(1000) {
			to := min(s.Upper, from+1+r.Intn(100))
			s.Claims = append(s.Claims, api.Span{From: from, To: to})
			from = to + 1 + r.Intn(100)
		}
	case 9:
		s.Report = 1 + size()
	case 12, 14:
		s.Reason = r.Intn(6)
	}
	return s
}

func TestP24ThereAndBack(t *testing.T) {
	all := good()
	r := rand.New(rand.NewSource(3))
	for range 2000 {
		all = append(all, anySegment(r))
	}
	seen := map[string]int{}
	for i, s := range all {
		b, e := segment.Print(s)
		if e != api.OK || segment.Right(s) != api.OK {
			t.Fatalf("Print of %.60v: %d", s, e)
		}
		if len(b) > api.MaxSegment {
			t.Fatalf("%d bytes of %.60v", len(b), s)
		}
		back, e := segment.Parse(b)
		if e != api.OK || !same(back, s) {
			t.Fatalf("Parse of Print of %.60v: %.60v, %d", s, back, e)
		}
		agrees(t, b)
		if j, ok := seen[string(b)]; ok && !same(all[j], s) {
			t.Fatalf("%.60v and %.60v have the same bytes", s, all[j])
		}
		seen[string(b)] = i
	}
}

func TestP25Beginnings(t *testing.T) {
	for _, s := range good() {
		b, _ := segment.Print(s)
		for n := range b {
			if got, e := segment.Parse(b[:n]); e != api.ErrSegmentShort || !same(got, api.Segment{}) {
				t.Fatalf("Parse of %d of the bytes %.60v: %d", n, b, e)
			}
		}
		for _, more := range [][]byte{{0}, {255}, b, make([]byte, api.MaxSegment-len(b)), make([]byte, api.MaxSegment-len(b)+1)} {
			want := api.ErrSegmentExtra
			switch long := len(b) + len(more); {
			case long > api.MaxSegment:
				want = api.ErrLong
			case len(more) == 0:
				want = api.OK
			}
			if _, e := segment.Parse(row(b, more)); e != want {
				t.Fatalf("Parse of %.60v and %d bytes behind: %d, not %d", b, len(more), e, want)
			}
		}
	}
}

func TestP26Beginnings(t *testing.T) {
	r := rand.New(rand.NewSource(4))
	tried := map[api.Errno]int{}
	for _, s := range good() {
		b, _ := segment.Print(s)
		for range 200 {
			c := changed(r, b)
			_, e, seen := model(c)
			if e != api.ErrSegmentHead && e != api.ErrSegmentNumber && e != api.ErrSegmentField {
				continue
			}
			tried[e]++
			for _, behind := range [][]byte{nil, {0}, {255}, b, bytes.Repeat([]byte{128}, 20), make([]byte, api.MaxSegment-seen)} {
				d := row(c[:seen], behind)
				if got, f := segment.Parse(d[:min(len(d), api.MaxSegment)]); f != e || !same(got, api.Segment{}) {
					t.Fatalf("Parse of %.60v, %d bytes of which are told as %d: %d", d, seen, e, f)
				}
			}
			if _, f := segment.Parse(c[:seen-1]); f != api.ErrSegmentShort {
				t.Fatalf("Parse of %.60v, without the byte that is wrong: %d", c[:seen-1], f)
			}
		}
	}
	for _, e := range []api.Errno{api.ErrSegmentHead, api.ErrSegmentNumber, api.ErrSegmentField} {
		if tried[e] < 50 {
			t.Errorf("the error %d was tried only %d times", e, tried[e])
		}
	}
}
