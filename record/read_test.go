package record_test

import (
	"bytes"
	"math/rand"
	"slices"
	"testing"

	"lantern/api"
	"lantern/record"
)

// checkRead holds Read against the chapter, whatever the bytes are.
func checkRead(t *testing.T, b []byte) {
	t.Helper()
	want, ok := modelRead(b)
	if !ok {
		checkNoRead(t, b, api.ErrRecordBytes)
		return
	}
	r, e := record.Read(b)
	fatalIf(t, e != api.OK || !same(r, want), "Read of %v: %v %d, not %v", short(b), brief(r), e, brief(want))
	again, e := record.Print(r)
	fatalIf(t, e != api.OK || !bytes.Equal(again, b), "Print of what Read told of %v: %v %d", short(b), short(again), e)
}

// isZero tells whether a record is the zero value, its lists too (W3).
func isZero(r api.Record) bool { return same(r, api.Record{}) && r.Spans == nil && r.Data == nil }

func checkNoRead(t *testing.T, b []byte, want api.Errno) {
	t.Helper()
	r, e := record.Read(b)
	fatalIf(t, e != want || !isZero(r), "Read of %v: %v %d, not %d", short(b), brief(r), e, want)
}

func TestP62ReadExamples(t *testing.T) {
	r, e := record.Read([]byte{2, 130, 44})
	fatalIf(t, e != api.OK || !same(r, api.Record{Kind: 2, Size: 300}), "Read of 2 130 44: %v %d", r, e)
	for _, b := range [][]byte{{2, 130, 44, 0}, {2, 130}, {2, 128, 44}, {}, nil, {13}, {0}, {255}, {2, 0}, {1, 7, 0}, {1, 0, 1}} {
		checkNoRead(t, b, api.ErrRecordBytes)
	}
}

func TestP67ReadOfPrint(t *testing.T) {
	for _, r := range good() {
		b, e := record.Print(r)
		fatalIf(t, e != api.OK, "Print of %v: %d", brief(r), e)
		got, e := record.Read(b)
		fatalIf(t, e != api.OK || !same(got, r), "Read of Print of %v: %v %d", brief(r), brief(got), e)
		checkRead(t, b)
	}
}

func TestP62CutShort(t *testing.T) {
	for _, r := range good() {
		b := modelBytes(r)
		for n := range b {
			if n > 200 && n < len(b)-200 {
				continue
			}
			checkNoRead(t, b[:n], api.ErrRecordBytes) // whatever stands in the spare room
			checkNoRead(t, slices.Clone(b[:n]), api.ErrRecordBytes)
		}
	}
}

func TestP62BytesBehind(t *testing.T) {
	for _, r := range good() {
		b := modelBytes(r)
		for c := range 256 {
			if len(b) < 200 || c < 3 {
				checkNoRead(t, append(slices.Clone(b), byte(c)), api.ErrRecordBytes)
			}
		}
		if len(b) <= long/2 {
			checkNoRead(t, append(slices.Clone(b), b...), api.ErrRecordBytes)
		}
	}
}

// otherwise are the bytes of a record with each of its parts but the kind made otherwise, one at a time.
func otherwise(r api.Record, change func(part []byte) []byte) (l [][]byte) {
	p := parts(r)
	for i := 1; i < len(p); i++ {
		if i > 30 && i < len(p)-30 {
			continue
		}
		if r.Data != nil && i == len(p)-1 {
			continue // what Data has is no number
		}
		was := p[i]
		p[i] = change(was)
		l = append(l, bytes.Join(p, nil))
		p[i] = was
	}
	return l
}

func TestP62NumbersLongerThanNeedBe(t *testing.T) {
	for _, r := range good() {
		for _, ahead := range [][]byte{{128}, {128, 128}, {128, 128, 128, 128, 128, 128, 128, 128, 128, 128}} {
			for _, b := range otherwise(r, func(was []byte) []byte { return append(slices.Clone(ahead), was...) }) {
				checkNoRead(t, b, api.ErrRecordBytes)
			}
		}
	}
}

// Numbers above MaxNum, above 64 bits, and such as would wrap round to small ones, wherever a record has a number.
func TestP62NumbersTooGreat(t *testing.T) {
	wrapped := []byte{130, 128, 128, 128, 128, 128, 128, 128, 128, 1} // 2^64 + 1
	endless := bytes.Repeat([]byte{255}, 40)
	numbers := [][]byte{digits(top + 1), digits(1 << 63), digits(1<<63 + 1), digits(1<<64 - 1), digits(1<<64 - 3), wrapped, endless, append(endless, 0)}
	for _, r := range good() {
		for _, n := range numbers {
			for _, b := range otherwise(r, func([]byte) []byte { return n }) {
				checkNoRead(t, b, api.ErrRecordBytes)
			}
		}
		for _, n := range [][]byte{digits(top), digits(top - 1), digits(1 << 32), digits(1<<32 + 1), digits(whole), digits(whole + 1), digits(0), digits(1)} {
			for _, b := range otherwise(r, func([]byte) []byte { return n }) {
				checkRead(t, b)
			}
		}
	}
}

// Records that may not be have no bytes, though they could be written.
func TestP62RecordsThatMayNotBe(t *testing.T) {
	for _, r := range few() {
		for _, x := range asked(r) {
			for _, n := range []int{x.low - 1, x.low, x.high, x.high + 1, whole, whole + 1, 0, 1} {
				if n < 0 || n > top || x.name == "Data" || x.name == "Spans" {
					continue
				}
				checkRead(t, modelBytes(with(r, func(r *api.Record) { *at(r, x.name) = n })))
			}
		}
	}
	for _, l := range [][]api.Span{nil, spans(0, 1), spans(1, 1), spans(1, 3, 3, 6), spans(1, 3, 2, 6), spans(5, 6, 1, 3), spans(1, top+1), spans(top, 2*top), spans(top, top+1), spans(1, 2, top, 2*top), comb(1, most+1), comb(1, 2000), comb(0, 3)} {
		checkNoRead(t, modelBytes(api.Record{Kind: 11, Size: 9, Spans: l}), api.ErrRecordBytes)
	}
	for _, r := range []api.Record{
		{Kind: 3, Session: api.Session{Origin: 1, Number: 1}, Peer: 1, Red: whole + 1, Size: whole + 1, Data: some(whole + 1)},
		{Kind: 6, Session: api.Session{Origin: 1, Number: 1}, Data: some(whole + 1)},
		{Kind: 6, Session: api.Session{Origin: 1, Number: 1}, Offset: 1, Data: some(whole)},
		{Kind: 6, Session: api.Session{Origin: 1, Number: 1}},
		{Kind: 6, Session: api.Session{Origin: 1, Number: 1}, Offset: top, Data: some(1)},
	} {
		checkNoRead(t, modelBytes(r), api.ErrRecordBytes)
	}
}

// More bytes, or spans, are told of than there are.
func TestP62CountsThatLie(t *testing.T) {
	for _, n := range []uint64{0, 1, 2, 3, 4, 5, 127, 128, 65536, 1 << 31, 1 << 32, 1<<32 + 2, top, top + 1, 1 << 63, 1<<64 - 1} {
		open := slices.Concat([]byte{3, 7, 1, 8, 0, 2, 3}, digits(n), []byte{9, 9})
		red := slices.Concat([]byte{6, 7, 1, 1, 5, 0, 0}, digits(n), []byte{9, 9})
		tomb := slices.Concat([]byte{11, 9}, digits(n), []byte{1, 2, 5, 1})
		for _, b := range [][]byte{open, red, tomb} {
			r, e := record.Read(b)
			fatalIf(t, (e == api.OK) != (n == 2), "Read of %v: %v %d", b, r, e)
			checkRead(t, b)
		}
	}
}

func TestP62Long(t *testing.T) {
	for _, fill := range []byte{0, 1, 2, 6, 11, 128, 255} {
		for _, n := range []int{long - 1, long} {
			checkNoRead(t, bytes.Repeat([]byte{fill}, n), api.ErrRecordBytes)
		}
		for _, n := range []int{long + 1, long + 2, 2 * long, 1 << 20} {
			checkNoRead(t, bytes.Repeat([]byte{fill}, n), api.ErrLong)
		}
	}
	for _, r := range good() {
		b := append(modelBytes(r), make([]byte, long)...)
		checkNoRead(t, b[:long], api.ErrRecordBytes)
		checkNoRead(t, b[:long+1], api.ErrLong)
	}
}

// All short rows of bytes.
func TestP62ShortRows(t *testing.T) {
	for a := range 256 {
		checkRead(t, []byte{byte(a)})
		for b := range 256 {
			checkRead(t, []byte{byte(a), byte(b)})
		}
	}
	values := []byte{0, 1, 2, 3, 4, 5, 6, 7, 127, 128, 129, 130, 255}
	for kind := range byte(14) {
		for _, a := range values {
			for _, b := range values {
				checkRead(t, []byte{kind, a, b})
				for _, c := range values {
					checkRead(t, []byte{kind, a, b, c})
					checkRead(t, []byte{kind, 1, a, b, c})
					checkRead(t, []byte{kind, 1, 1, a, b, c})
					checkRead(t, []byte{kind, 1, 1, 1, a, b, c, 1, 1})
					checkRead(t, []byte{kind, 1, 1, 0, a, b, c})
				}
			}
		}
	}
}

// Every byte of every record turned to others.
func TestP62TurnedBytes(t *testing.T) {
	for _, r := range few() {
		b := modelBytes(r)
		for i, was := range b {
			for _, c := range []byte{was + 1, was - 1, was ^ 128, was ^ 64, 0, 1, 127, 128, 255} {
				b[i] = c
				checkRead(t, b)
			}
			b[i] = was
		}
	}
}

// Rows that begin as those of records do.
func TestP62AnyRows(t *testing.T) {
	r := rand.New(rand.NewSource(6))
	values := []byte{0, 1, 1, 2, 3, 4, 5, 6, 100, 127, 128, 129, 130, 132, 200, 255}
	for range 100000 {
		b := []byte{byte(r.Intn(14))}
		for range r.Intn(16) {
			b = append(b, values[r.Intn(len(values))])
		}
		checkRead(t, b)
	}
}

// What is told does not hang on what was asked ahead (W2).
func TestP62NothingStays(t *testing.T) {
	all := good()
	for i, r := range all {
		other := modelBytes(all[len(all)-1-i])
		checkNoRead(t, other[:len(other)-1], api.ErrRecordBytes)
		checkRead(t, modelBytes(r))
		checkNoPrint(t, with(r, func(r *api.Record) { r.Kind = 99 }))
		checkPrint(t, r)
	}
}

// FuzzRead looks for bytes of which Read tells something else than the chapter.
func FuzzRead(f *testing.F) {
	for kind := 1; kind <= kinds; kind++ {
		f.Add(modelBytes(plain(kind)))
	}
	for _, x := range forms() {
		f.Add(x.b)
	}
	f.Fuzz(func(t *testing.T, b []byte) {
		if len(b) > long {
			checkNoRead(t, b, api.ErrLong)
			return
		}
		checkRead(t, b)
	})
}
