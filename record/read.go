package record

import (
	"bytes"

	"lantern/api"
	"lantern/sdnv"
)

// Read is the record of some bytes.
func Read(b []byte) (r api.Record, e api.Errno) {
	if len(b) > api.MaxRecord {
		return api.Record{}, api.ErrLong
	}
	defer func() {
		if recover() != nil {
			r, e = api.Record{}, api.ErrRecordBytes
		}
	}()
	return whole(b), api.OK
}

// must gives up, if what the bytes of a record have to be is not so: Read recovers it, so that whoever reads need not ask behind each piece.
func must(so bool) {
	if !so {
		panic(api.ErrRecordBytes)
	}
}

// whole is the record that all of b is.
func whole(b []byte) api.Record {
	left := reader{b: b}
	r := left.record()
	must(len(left.b) == 0 && mayBe(r))
	return r
}

// reader has what is left of bytes that are read from the left.
type reader struct{ b []byte }

// take reads so many bytes; they are still those of whoever handed them in.
func (r *reader) take(count int) []byte {
	must(count <= len(r.b))
	b := r.b[:count]
	r.b = r.b[count:]
	return b
}

func (r *reader) number() int {
	n, count, e := sdnv.Read(r.b)
	must(e == api.OK && n <= api.MaxNum)
	r.take(count)
	return int(n)
}

func (r *reader) record() api.Record {
	kind := int(r.take(1)[0])
	has := fieldsOf(kind)
	var n numbers
	for one := range n {
		if has.has(one) {
			n[one] = r.number()
		}
	}
	got := n.record(kind)
	if has.has(spans) {
		got.Spans = r.spans()
	}
	if has.has(data) {
		got.Data = bytes.Clone(r.take(r.number()))
	}
	return got
}

// spans reads spans, each by its From and its length. However many there are said to be, the bytes are at their end before it goes too far.
func (r *reader) spans() []api.Span {
	var l []api.Span
	for range r.number() {
		from := r.number()
		l = append(l, api.Span{From: from, To: from + r.number()})
	}
	return l
}
