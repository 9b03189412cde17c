package record_test

import (
	"bytes"
	"math"
	"testing"

	"lantern/api"
	"lantern/record"
)

// checkPrint holds Right and Print against the chapter, whether the record may be or not.
func checkPrint(t *testing.T, r api.Record) {
	t.Helper()
	if !modelMay(r) {
		checkNoPrint(t, r)
		return
	}
	e := record.Right(r)
	fatalIf(t, e != api.OK, "Right of %v: %d", brief(r), e)
	b, e := record.Print(r)
	fatalIf(t, e != api.OK || !bytes.Equal(b, modelBytes(r)), "Print of %v: %v %d, not %v", brief(r), short(b), e, short(modelBytes(r)))
}

func checkNoPrint(t *testing.T, r api.Record) {
	t.Helper()
	e := record.Right(r)
	fatalIf(t, e != api.ErrRecordKind, "Right of %v: %d", brief(r), e)
	b, e := record.Print(r)
	fatalIf(t, e != api.ErrRecordKind || b != nil, "Print of %v: %v %d", brief(r), short(b), e)
}

// forms are records and their bytes, written out by hand.
func forms() []struct {
	r api.Record
	b []byte
} {
	s, far := api.Session{Origin: 7, Number: 1}, api.Session{Origin: 300, Number: 128}
	last := []byte{191, 255, 255, 255, 255, 255, 255, 255, 127} // MaxNum
	return []struct {
		r api.Record
		b []byte
	}{
		{api.Record{Kind: api.RecNext, Size: 300}, []byte{2, 130, 44}},
		{api.Record{Kind: api.RecBoot, Session: api.Session{Origin: 7}, Size: 1}, []byte{1, 7, 1}},
		{api.Record{Kind: api.RecEnd, Session: s, How: 6}, []byte{4, 7, 1, 6}},
		{api.Record{Kind: api.RecRed, Session: api.Session{Origin: 7, Number: 130}, Service: 1, Offset: 5, Data: []byte{65, 66}}, []byte{6, 7, 129, 2, 1, 5, 0, 0, 2, 65, 66}},
		{api.Record{Kind: api.RecTomb, Size: 9, Spans: spans(1, 3, 5, 6)}, []byte{11, 9, 2, 1, 2, 5, 1}},
		{api.Record{Kind: api.RecBoot, Session: api.Session{Origin: 300}, Size: 1 << 30}, []byte{1, 130, 44, 132, 128, 128, 128, 0}},
		{api.Record{Kind: api.RecNext, Size: top}, append([]byte{2}, last...)},
		{api.Record{Kind: api.RecOpen, Session: s, Peer: 8, Service: 9, Red: 2, Size: 3, Data: []byte{5, 4}}, []byte{3, 7, 1, 8, 9, 2, 3, 2, 5, 4}},
		{api.Record{Kind: api.RecOpen, Session: far, Peer: 200, Service: 0, Red: 1, Size: whole, Data: []byte{128}}, []byte{3, 130, 44, 129, 0, 129, 72, 0, 1, 132, 128, 0, 1, 128}},
		{api.Record{Kind: api.RecEnd, Session: far}, []byte{4, 130, 44, 129, 0, 0}},
		{api.Record{Kind: api.RecTold, Session: far}, []byte{5, 130, 44, 129, 0}},
		{api.Record{Kind: api.RecRed, Session: s, Service: 200, Offset: 300, Red: 400, Size: 500, Data: []byte{1, 2, 3}}, []byte{6, 7, 1, 129, 72, 130, 44, 131, 16, 131, 116, 3, 1, 2, 3}},
		{api.Record{Kind: api.RecDone, Session: s}, []byte{7, 7, 1}},
		{api.Record{Kind: api.RecGone, Session: s, How: 5}, []byte{8, 7, 1, 5}},
		{api.Record{Kind: api.RecHeard, Session: s}, []byte{9, 7, 1}},
		{api.Record{Kind: api.RecShut, Session: s}, []byte{10, 7, 1}},
		{api.Record{Kind: api.RecTomb, Size: 200, Spans: spans(300, 428, 500, 501)}, []byte{11, 129, 72, 2, 130, 44, 129, 0, 131, 116, 1}},
		{api.Record{Kind: api.RecPast, Session: s, Service: 2, Red: 3, Size: 4}, []byte{12, 7, 1, 2, 3, 4}},
		{api.Record{Kind: api.RecPast, Session: s, Service: 2, Red: 3}, []byte{12, 7, 1, 2, 3, 0}},
	}
}

func TestP62Forms(t *testing.T) {
	for _, x := range forms() {
		fatalIf(t, !modelMay(x.r) || !bytes.Equal(modelBytes(x.r), x.b), "the model has other bytes of %v: %v", x.r, modelBytes(x.r))
		checkPrint(t, x.r)
		r, e := record.Read(x.b)
		fatalIf(t, e != api.OK || !same(r, x.r), "Read of %v: %v %d, not %v", x.b, r, e, x.r)
	}
}

func TestP61Examples(t *testing.T) {
	s := api.Session{Origin: 7, Number: 130}
	for _, r := range []api.Record{
		{Kind: api.RecEnd, Session: s, How: 7},
		{Kind: api.RecRed, Session: s, Service: 1, Offset: 5, Red: 6, Data: []byte{65, 66}},
		{Kind: api.RecRed, Session: s, Service: 1, Offset: 5, Red: 8, Size: 7, Data: []byte{65, 66}},
		{Kind: api.RecRed, Session: s, Service: 1, Offset: 5, Peer: 1, Data: []byte{65, 66}},
		{Kind: api.RecRed, Session: s, Service: 1, Offset: 5},
		{Kind: api.RecTomb, Size: 9, Spans: spans(1, 3, 3, 6)},
		{Kind: api.RecTomb, Size: 9},
	} {
		checkNoPrint(t, r)
	}
}

func TestP61Kinds(t *testing.T) {
	kindless := []int{math.MinInt, math.MaxInt, 1<<32 + 2, 1<<62 + 2, -1 << 32, 256 + 2, 65536 + 5}
	for kind := -300; kind <= 300; kind++ {
		if kind >= 1 && kind <= kinds {
			checkPrint(t, plain(kind))
			fatalIf(t, !modelMay(plain(kind)), "the plain record of kind %d may not be", kind)
			continue
		}
		kindless = append(kindless, kind)
	}
	for _, kind := range kindless {
		checkNoPrint(t, api.Record{Kind: kind})
		for of := 1; of <= kinds; of++ {
			checkNoPrint(t, with(plain(of), func(r *api.Record) { r.Kind = kind }))
		}
	}
}

// Whatever fields a record has, as another kind it may be only if these are that one's.
func TestP61FieldsOfAnotherKind(t *testing.T) {
	for _, r := range good() {
		for kind := 1; kind <= kinds; kind++ {
			checkPrint(t, with(r, func(r *api.Record) { r.Kind = kind }))
		}
	}
}

// Every field of every kind at both ends of what it may be, just beyond, and far from there.
func TestP61Ends(t *testing.T) {
	for _, r := range good() {
		for _, x := range asked(r) {
			if x.name == "Data" || x.name == "Spans" {
				continue
			}
			for _, n := range append(beyond(), x.low-1, x.low, x.low+1, x.high-1, x.high, x.high+1, whole-1, whole, whole+1, top-1, top, 0, 1, 1<<30, 1<<30+1, 1<<32+1) {
				checkPrint(t, with(r, func(r *api.Record) { *at(r, x.name) = n }))
			}
		}
	}
}

// The ends, said once more by their numbers.
func TestP61EndsByNumbers(t *testing.T) {
	for _, x := range []struct {
		kind      int
		name      string
		low, high int
	}{
		{1, "Origin", 1, top}, {1, "Size", 1, 1073741824},
		{2, "Size", 1, top},
		{3, "Origin", 1, top}, {3, "Number", 1, top - 1}, {3, "Peer", 1, top}, {3, "Service", 0, top}, {3, "Size", 3, 65536}, {3, "Red", 3, 3},
		{4, "Origin", 1, top}, {4, "Number", 1, top - 1}, {4, "How", 0, 6},
		{5, "Origin", 1, top}, {5, "Number", 1, top - 1},
		{6, "Origin", 1, top}, {6, "Number", 1, top - 1}, {6, "Service", 0, top}, {6, "Offset", 0, 5},
		{7, "Origin", 1, top}, {7, "Number", 1, top - 1},
		{8, "Origin", 1, top}, {8, "Number", 1, top - 1}, {8, "How", 0, 5},
		{9, "Origin", 1, top}, {9, "Number", 1, top - 1},
		{10, "Origin", 1, top}, {10, "Number", 1, top - 1},
		{11, "Size", 1, top},
		{12, "Origin", 1, top}, {12, "Number", 1, top - 1}, {12, "Service", 0, top},
	} {
		for _, n := range []int{x.low, x.high} {
			r := with(plain(x.kind), func(r *api.Record) { *at(r, x.name) = n })
			e := record.Right(r)
			fatalIf(t, e != api.OK, "Right of %v: %d", r, e)
			checkPrint(t, r)
		}
		for _, n := range append(beyond(), x.low-1, x.high+1) {
			checkNoPrint(t, with(plain(x.kind), func(r *api.Record) { *at(r, x.name) = n }))
		}
	}
}

// A field that a kind has not is zero, or the record may not be.
func TestP61OtherFields(t *testing.T) {
	for _, r := range good() {
		has := map[string]bool{}
		for _, x := range asked(r) {
			has[x.name] = true
		}
		for _, name := range names() {
			for _, n := range append(beyond(), 1, 2, 3, whole, top) {
				if !has[name] {
					checkNoPrint(t, with(r, func(r *api.Record) { *at(r, name) = n }))
				}
			}
		}
		for _, n := range []int{1, 3, whole, long + 1} {
			if !has["Data"] {
				checkNoPrint(t, with(r, func(r *api.Record) { r.Data = some(n) }))
			}
		}
		if !has["Spans"] {
			checkNoPrint(t, with(r, func(r *api.Record) { r.Spans = spans(1, 3) }))
			checkNoPrint(t, with(r, func(r *api.Record) { r.Spans = spans(0, 0) }))
		}
		// An empty list is as good as none (W5).
		checkPrint(t, with(r, func(r *api.Record) { r.Data = append([]byte{}, r.Data...); r.Spans = append([]api.Span{}, r.Spans...) }))
	}
}

// RecOpen: the red bytes are all there.
func TestP61Open(t *testing.T) {
	for _, near := range []int{0, whole - 4} {
		for red := near - 1; red <= near+6; red++ {
			for size := near - 1; size <= near+6; size++ {
				for count := max(near-1, 0); count <= near+6; count++ {
					checkPrint(t, with(plain(3), func(r *api.Record) { r.Red, r.Size, r.Data = red, size, some(count) }))
				}
			}
		}
	}
	may := func(red, size, count int) bool {
		return record.Right(with(plain(3), func(r *api.Record) { r.Red, r.Size, r.Data = red, size, some(count) })) == api.OK
	}
	if !may(whole, whole, whole) || may(whole+1, whole+1, whole+1) || may(whole, whole+1, whole) || may(0, 1, 0) || may(2, 1, 2) || may(2, 3, 1) || may(2, 3, 3) {
		t.Error("RecOpen at its limits")
	}
}

// RecRed: where the bytes end, the red part's length and the block's.
func TestP61Red(t *testing.T) {
	check := func(offset, count, red, size int) {
		t.Helper()
		checkPrint(t, with(plain(6), func(r *api.Record) { r.Offset, r.Data, r.Red, r.Size = offset, some(count), red, size }))
	}
	for offset := -1; offset <= 3; offset++ {
		for count := 0; count <= 3; count++ {
			for n := range 81 {
				check(offset, count, n%9-1, n/9-1)
				check(whole-4+offset, count, n%9-1, n/9-1)
				check(whole-4+offset, count, whole-6+n%9, whole-6+n/9)
				check(whole-4+offset, count, 0, whole-6+n/9)
				check(whole-4+offset, count, whole-6+n%9, 0)
				check(offset, whole-3+count, whole-6+n%9, whole-6+n/9)
			}
		}
	}
	check(0, whole, 0, 0)
	check(0, whole+1, 0, 0)
	check(0, long, 0, 0)
	check(math.MaxInt, 1, 0, 0) // their sum is below all others
	check(math.MaxInt-2, 3, 0, 0)
	check(-3, 3, 0, 0)
	check(-whole, 2*whole, 0, 0)
}

// RecPast: the red part's length is known, the block's may be.
func TestP61Past(t *testing.T) {
	for _, near := range []int{0, whole - 4} {
		for red := near - 1; red <= near+6; red++ {
			for size := -1; size <= 6; size++ {
				checkPrint(t, with(plain(12), func(r *api.Record) { r.Red, r.Size = red, size }))
				checkPrint(t, with(plain(12), func(r *api.Record) { r.Red, r.Size = red, near+size }))
			}
		}
	}
}

func checkTomb(t *testing.T, l []api.Span, may bool) {
	t.Helper()
	r := api.Record{Kind: 11, Size: 9, Spans: l}
	fatalIf(t, modelMay(r) != may, "the model says of %v: %v", brief(r), !may)
	checkPrint(t, r)
}

func TestP61Tombs(t *testing.T) {
	for _, l := range [][]api.Span{
		spans(1, 2), spans(1, 2, 3, 4), spans(1, top), spans(top-1, top), spans(5, 6, top-1, top), comb(1, most-1), comb(1, most), comb(top-2*most+1, most),
	} {
		checkTomb(t, l, true)
	}
	for _, l := range [][]api.Span{
		nil, {}, spans(0, 1), spans(0, 2, 3, 4), spans(-1, 2), spans(1, 1), spans(2, 1), spans(1, top+1), spans(top, top), spans(top, top+1),
		spans(1, 3, 3, 6), spans(1, 3, 2, 6), spans(5, 6, 1, 3), spans(1, 3, 1, 3), spans(1, 3, 5, 5), spans(1, 3, 5, 4), spans(1, 3, 0, 0), spans(3, 4, 0, 1),
		spans(1, 3, 5, top+1), spans(math.MinInt, math.MaxInt), spans(math.MaxInt, math.MinInt), spans(1, math.MaxInt),
		comb(1, most+1), comb(0, most), comb(1, 2000), comb(1, 2001), comb(1, 20000), append(comb(3, most-1), span(1, 2)),
	} {
		checkTomb(t, l, false)
	}
}

func span(from, to int) api.Span { return api.Span{From: from, To: to} }

// Every two spans of small numbers.
func TestP61SmallTombs(t *testing.T) {
	for n := range 6 * 6 * 6 * 6 {
		l := spans(n%6-1, n/6%6-1, n/36%6-1, n/216-1)
		checkPrint(t, api.Record{Kind: 11, Size: 9, Spans: l})
		checkPrint(t, api.Record{Kind: 11, Size: 9, Spans: l[:1]})
	}
}

// A wrong span is found wherever it stands.
func TestP61OneWrongSpan(t *testing.T) {
	for i := range most {
		for _, s := range []api.Span{{From: 4*i + 2, To: 4*i + 2}, {From: 4*i + 2, To: 4*i + 5}, {From: 0, To: 4*i + 3}, {From: 4*i - 1, To: 4*i + 3}} {
			var l []api.Span
			for k := range most {
				l = append(l, span(4*k+2, 4*k+4))
			}
			l[i] = s
			checkPrint(t, api.Record{Kind: 11, Size: 9, Spans: l})
		}
	}
}

// P6.7: each record that may be has at most MaxRecord bytes.
func TestP67NoneIsTooLong(t *testing.T) {
	longest := 0
	for _, r := range good() {
		b, e := record.Print(r)
		fatalIf(t, e != api.OK || len(b) > long, "Print of %v: %d bytes, %d", brief(r), len(b), e)
		longest = max(longest, len(b))
	}
	if longest != whole+1+4*9+3*3 {
		t.Errorf("the longest has %d bytes", longest)
	}
}
