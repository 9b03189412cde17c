package record_test

import (
	"bytes"
	"encoding/binary"
	"hash/crc32"
	"math"
	"math/big"
	"slices"
	"testing"

	"lantern/api"
)

// What the chapter says, once more and in another way than the package: the table by the names of its fields, bytes by great numbers, and the library's own sum.

const (
	top   = 1<<62 - 1 // MaxNum
	whole = 65536     // MaxBlock
	most  = 500       // MaxTombs
	long  = 1 << 17   // MaxRecord
	kinds = 12
)

// row is a field with what it may be, of Data and Spans how many.
type row struct {
	name      string
	low, high int
}

// asked is the chapter's table: of a record's kind the fields, in their order, and what they may be beside its other fields.
func asked(r api.Record) []row {
	session := []row{{"Origin", 1, top}, {"Number", 1, top - 1}}
	switch r.Kind {
	case 1:
		return []row{{"Origin", 1, top}, {"Size", 1, 1 << 30}}
	case 2:
		return []row{{"Size", 1, top}}
	case 3:
		return append(session, row{"Peer", 1, top}, row{"Service", 0, top}, row{"Red", 1, r.Size}, row{"Size", r.Red, whole}, row{"Data", r.Red, r.Red})
	case 4:
		return append(session, row{"How", 0, 6})
	case 5, 7, 9, 10:
		return session
	case 6:
		return append(session, row{"Service", 0, top}, row{"Offset", 0, whole - len(r.Data)}, row{"Red", 0, whole}, row{"Size", 0, whole}, row{"Data", 1, whole})
	case 8:
		return append(session, row{"How", 0, 5})
	case 11:
		return []row{{"Size", 1, top}, {"Spans", 1, most}}
	case 12:
		return append(session, row{"Service", 0, top}, row{"Red", 1, whole}, row{"Size", 0, whole})
	}
	return nil
}

// names are those of all fields that are numbers.
func names() []string {
	return []string{"Origin", "Number", "Peer", "Service", "Offset", "Red", "Size", "How"}
}

// at is a record's field of that name.
func at(r *api.Record, name string) *int {
	switch name {
	case "Origin":
		return &r.Session.Origin
	case "Number":
		return &r.Session.Number
	case "Peer":
		return &r.Peer
	case "Service":
		return &r.Service
	case "Offset":
		return &r.Offset
	case "Red":
		return &r.Red
	case "Size":
		return &r.Size
	case "How":
		return &r.How
	}
	panic("no field " + name)
}

// value is what is asked of a field: the number, or of Data and Spans how many.
func value(r api.Record, name string) int {
	switch name {
	case "Data":
		return len(r.Data)
	case "Spans":
		return len(r.Spans)
	}
	return *at(&r, name)
}

// modelMay tells whether a record may be.
func modelMay(r api.Record) bool {
	rows := asked(r)
	for _, name := range append(names(), "Data", "Spans") {
		i := slices.IndexFunc(rows, func(x row) bool { return x.name == name })
		n := value(r, name)
		if i < 0 && n != 0 || i >= 0 && (n < rows[i].low || n > rows[i].high) {
			return false
		}
	}
	return rows != nil && lengthsMayBe(r) && modelTombs(r.Spans)
}

// lengthsMayBe is what the table asks of Red and Size where they may be 0.
func lengthsMayBe(r api.Record) bool {
	end := 0
	if r.Kind == 6 {
		end = r.Offset + len(r.Data)
	}
	if r.Kind == 6 && r.Red != 0 && r.Red < end {
		return false
	}
	return r.Kind != 6 && r.Kind != 12 || r.Size == 0 || r.Size >= end && r.Size >= r.Red
}

// modelTombs tells whether spans are a set of numbers from 1 on.
func modelTombs(l []api.Span) bool {
	last := -1
	for _, s := range l {
		if s.From < 1 || s.From <= last || s.To <= s.From || s.To > top {
			return false
		}
		last = s.To
	}
	return true
}

// digits are a number's bytes, by the words of chapter 1.
func digits(n uint64) []byte {
	out := []byte{byte(n % 128)}
	for n /= 128; n > 0; n /= 128 {
		out = append([]byte{byte(n%128) + 128}, out...)
	}
	return out
}

// parts are the bytes of a record, cut: each number for itself, and Data's bytes.
func parts(r api.Record) (l [][]byte) {
	l = append(l, []byte{byte(r.Kind)})
	for _, x := range asked(r) {
		l = append(l, digits(uint64(value(r, x.name))))
		switch x.name {
		case "Data":
			l = append(l, r.Data)
		case "Spans":
			for _, s := range r.Spans {
				l = append(l, digits(uint64(s.From)), digits(uint64(s.To-s.From)))
			}
		}
	}
	return l
}

// modelBytes are the bytes of a record that may be.
func modelBytes(r api.Record) []byte { return bytes.Join(parts(r), nil) }

// loose reads bytes without asking much of them, as far as they go.
type loose struct {
	b      []byte
	failed bool
}

// number reads a number of whatever form, if it is one that may be.
func (l *loose) number() int {
	n := new(big.Int)
	for i, c := range l.b {
		n.Add(n.Mul(n, big.NewInt(128)), big.NewInt(int64(c%128)))
		if c < 128 {
			l.b = l.b[i+1:]
			if n.Cmp(big.NewInt(top)) > 0 {
				l.failed = true
				return 0
			}
			return int(n.Int64())
		}
	}
	l.failed = true
	return 0
}

// modelRead is the record whose bytes b is, if there is one: whatever b says is made into a record, and that is held against b.
func modelRead(b []byte) (api.Record, bool) {
	if len(b) == 0 || len(b) > long {
		return api.Record{}, false
	}
	l := loose{b: b[1:]}
	r := api.Record{Kind: int(b[0])}
	for _, x := range asked(r) {
		switch x.name {
		case "Data":
			n := min(l.number(), len(l.b))
			r.Data, l.b = l.b[:n], l.b[n:]
		case "Spans":
			for n := l.number(); n > 0 && !l.failed; n-- {
				from := l.number()
				r.Spans = append(r.Spans, api.Span{From: from, To: from + l.number()})
			}
		default:
			*at(&r, x.name) = l.number()
		}
	}
	if l.failed || !modelMay(r) || !bytes.Equal(modelBytes(r), b) {
		return api.Record{}, false
	}
	return r, true
}

// framed is a frame of whatever bytes: the length and the sum are right.
func framed(b []byte) []byte {
	out := binary.BigEndian.AppendUint32(nil, uint32(len(b)))
	out = binary.BigEndian.AppendUint32(out, crc32.ChecksumIEEE(b))
	return append(out, b...)
}

func modelFrames(l []api.Record) (out []byte) {
	for _, r := range l {
		out = append(out, framed(modelBytes(r))...)
	}
	return out
}

// modelScan is what P6.4 says of bytes.
func modelScan(b []byte) (l []api.Record, n int) {
	for {
		left := b[n:]
		if len(left) < 8 || int(binary.BigEndian.Uint32(left)) > len(left)-8 {
			return l, n
		}
		end := 8 + int(binary.BigEndian.Uint32(left))
		r, ok := modelRead(left[8:end])
		if !ok || !bytes.Equal(framed(left[8:end]), left[:end]) {
			return l, n
		}
		l = append(l, r)
		n += end
	}
}

// same tells whether two records are one; a list that is nil is one that is empty (W5).
func same(a, b api.Record) bool {
	for _, name := range names() {
		if value(a, name) != value(b, name) {
			return false
		}
	}
	return a.Kind == b.Kind && slices.Equal(a.Spans, b.Spans) && bytes.Equal(a.Data, b.Data)
}

func sameAll(a, b []api.Record) bool { return slices.EqualFunc(a, b, same) }

// short is a row, or its first bytes and how long it is: enough to tell which one it was.
func short(b []byte) any {
	if len(b) <= 60 {
		return b
	}
	return []any{b[:40], "of", len(b)}
}

// brief is a record of which long lists are told by their length.
func brief(r api.Record) any {
	if len(r.Data)+len(r.Spans) < 20 {
		return r
	}
	return []any{r.Kind, r.Session, r.Peer, r.Service, r.Offset, r.Red, r.Size, r.How, "spans", len(r.Spans), "bytes", len(r.Data)}
}

func fatalIf(t *testing.T, bad bool, words string, what ...any) {
	t.Helper()
	if bad {
		t.Fatalf(words, what...)
	}
}

// with is a record with something changed; its lists are its own.
func with(r api.Record, change func(*api.Record)) api.Record {
	r = copied(r)
	change(&r)
	return r
}

// copied is a record of which nothing is shared.
func copied(r api.Record) api.Record {
	r.Spans, r.Data = slices.Clone(r.Spans), bytes.Clone(r.Data)
	return r
}

// some are so many bytes, of all kinds.
func some(n int) []byte {
	b := make([]byte, n)
	for i := range b {
		b[i] = byte(i*7 + i>>8 + 1)
	}
	return b
}

// spans are spans by their ends.
func spans(ends ...int) (l []api.Span) {
	for i := 0; i+1 < len(ends); i += 2 {
		l = append(l, api.Span{From: ends[i], To: ends[i+1]})
	}
	return l
}

// comb is so many spans of one number each, with a gap of one between.
func comb(from, count int) (l []api.Span) {
	for i := range count {
		l = append(l, api.Span{From: from + 2*i, To: from + 2*i + 1})
	}
	return l
}

// plain is a record of a kind, with small fields, each of another value.
func plain(kind int) api.Record {
	r := api.Record{Kind: kind}
	for i, x := range asked(r) {
		switch x.name {
		case "Data":
			r.Data = some(3)
		case "Spans":
			r.Spans = spans(2, 4, 6, 7)
		default:
			*at(&r, x.name) = 1 + i
		}
	}
	switch kind {
	case 3:
		r.Red, r.Size = 3, 9
	case 6:
		r.Red, r.Size = 8, 9
	}
	return r
}

// good are records that may be: of every kind, and at every limit.
func good() (l []api.Record) {
	for kind := 1; kind <= kinds; kind++ {
		p := plain(kind)
		l = append(l, p)
		for _, x := range asked(p) {
			for _, n := range []int{x.low, x.low + 1, 127, 128, 300, 16383, 16384, x.high - 1, x.high} {
				if x.name == "Data" || x.name == "Spans" || n < x.low || n > x.high {
					continue
				}
				if r := with(p, func(r *api.Record) { *at(r, x.name) = n }); modelMay(r) {
					l = append(l, r)
				}
			}
		}
	}
	return append(l, great()...)
}

// great are records that are as great as may be, in one way or another.
func great() []api.Record {
	far := api.Session{Origin: top, Number: top - 1}
	var wide []api.Span
	for i := range most {
		wide = append(wide, api.Span{From: 1<<61 + i<<52, To: 1<<61 + (i+1)<<52 - 1})
	}
	return []api.Record{
		{Kind: 1, Session: api.Session{Origin: top}, Size: 1 << 30},
		{Kind: 2, Size: top},
		{Kind: 3, Session: far, Peer: top, Service: top, Red: whole, Size: whole, Data: some(whole)},
		{Kind: 3, Session: far, Peer: 1, Red: 1, Size: whole, Data: []byte{0}},
		{Kind: 3, Session: far, Peer: 1, Red: 300, Size: 301, Data: some(300)},
		{Kind: 6, Session: far, Service: top, Data: some(whole)},
		{Kind: 6, Session: far, Service: top, Red: whole, Size: whole, Data: some(whole)},
		{Kind: 6, Session: far, Offset: whole - 1, Red: whole, Size: whole, Data: []byte{255}},
		{Kind: 6, Session: far, Offset: whole - 1, Data: []byte{128}},
		{Kind: 6, Session: far, Offset: 300, Red: 600, Size: 0, Data: some(300)},
		{Kind: 6, Session: far, Offset: 0, Red: 0, Size: 128, Data: some(128)},
		{Kind: 11, Size: top, Spans: comb(1, most)},
		{Kind: 11, Size: top, Spans: comb(top-2*most, most)},
		{Kind: 11, Size: top, Spans: wide},
		{Kind: 11, Size: 1, Spans: spans(1, top)},
		{Kind: 11, Size: 1, Spans: spans(top-1, top)},
		{Kind: 11, Size: 1, Spans: spans(1, 2, top-1, top)},
		{Kind: 11, Size: 1, Spans: spans(1, 129, 130, 131, 300, 16384)},
		{Kind: 12, Session: far, Service: top, Red: whole, Size: whole},
		{Kind: 12, Session: far, Service: top, Red: whole},
	}
}

// few are records of every kind, with few bytes each.
func few() (l []api.Record) {
	for _, r := range good() {
		if len(r.Data)+len(r.Spans) < 20 {
			l = append(l, r)
		}
	}
	return l
}

// beyond are numbers that are none.
func beyond() []int { return []int{-1, -300, -top, top + 1, math.MaxInt, math.MinInt} }
