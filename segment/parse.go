package segment

import (
	"bytes"

	"lantern/api"
	"lantern/sdnv"
)

// cursor is a place in bytes that are read from the left. What was wrong first stays, and from there on nothing more is read: so whoever reads need not ask behind each piece.
type cursor struct {
	all   []byte
	place int
	fault api.Errno
}

func (c *cursor) failed() bool { return c.fault != api.OK }

// fail tells what is wrong, if nothing was wrong ahead.
func (c *cursor) fail(e api.Errno) {
	if !c.failed() {
		c.fault = e
	}
}

// rest is what was not read; nothing behind a fault.
func (c *cursor) rest() []byte {
	if c.failed() {
		return nil
	}
	return c.all[c.place:]
}

// octet reads a byte.
func (c *cursor) octet() int {
	b := c.rest()
	if len(b) == 0 {
		c.fail(api.ErrSegmentShort)
		return 0
	}
	c.place++
	return int(b[0])
}

// number reads a number that is to be low at least and high at most.
func (c *cursor) number(low, high int) int {
	n, size, e := sdnv.Read(c.rest())
	switch {
	case e == api.ErrSdnvShort:
		c.fail(api.ErrSegmentShort)
		return 0
	case e != api.OK || n > api.MaxNum:
		c.fail(api.ErrSegmentNumber)
		return 0
	case !between(int(n), low, high):
		c.fail(api.ErrSegmentField)
		return 0
	}
	c.place += size
	return int(n)
}

// row reads so many bytes, as new memory.
func (c *cursor) row(count int) []byte {
	b := c.rest()
	if len(b) < count {
		c.fail(api.ErrSegmentShort)
		return nil
	}
	c.place += count
	return bytes.Clone(b[:count])
}

// reader reads a segment.
type reader struct {
	cursor
	has parts // of the segment's type
	got api.Segment
}

// Parse tells which segment bytes are.
func Parse(b []byte) (api.Segment, api.Errno) {
	if len(b) > api.MaxSegment {
		return api.Segment{}, api.ErrLong
	}
	r := reader{cursor: cursor{all: b}}
	r.segment()
	if len(r.rest()) > 0 {
		r.fail(api.ErrSegmentExtra)
	}
	if r.failed() {
		return api.Segment{}, r.fault
	}
	return r.got, api.OK
}

func (r *reader) segment() {
	r.kind()
	r.got.Session.Origin = r.number(1, api.MaxNum)
	r.got.Session.Number = r.number(1, api.MaxNum-1)
	counts := r.octet()
	r.got.Head = r.exts(counts >> halfBits)
	switch {
	case r.has.any(block):
		r.block()
	case r.has.any(tells):
		r.report()
	case r.has.any(grants):
		r.got.Report = r.number(r.has.leastReport(), api.MaxNum)
	case r.has.any(why):
		r.reason()
	}
	r.got.Tail = r.exts(counts & lowHalf)
}

// kind reads the version and the type: as the version is 0, the byte is the type.
func (r *reader) kind() {
	r.got.Type = r.octet()
	r.has = shapeOf(r.got.Type)
	if !r.has.any(known) {
		r.fail(api.ErrSegmentHead)
	}
}

func (r *reader) exts(count int) []api.Ext {
	var l []api.Ext
	for range count {
		var x api.Ext
		x.Tag = r.octet()
		x.Data = r.row(r.number(0, api.MaxExt))
		l = append(l, x)
	}
	return l
}

func (r *reader) block() {
	r.got.Service = r.number(0, api.MaxNum)
	r.got.Offset = r.number(0, api.MaxNum)
	count := r.number(1, api.MaxBlock-r.got.Offset)
	if r.has.any(asks) {
		r.got.Check = r.number(r.has.leastCheck(), api.MaxNum)
		r.got.Report = r.number(r.has.leastReport(), api.MaxNum)
	}
	r.got.Data = r.row(count)
}

func (r *reader) report() {
	r.got.Report = r.number(r.has.leastReport(), api.MaxNum)
	r.got.Check = r.number(r.has.leastCheck(), api.MaxNum)
	r.got.Upper = r.number(1, api.MaxBlock)
	r.got.Lower = r.number(0, r.got.Upper-1)
	r.claims(r.number(1, api.MaxClaims))
}

// claims reads so many claims, each by its distance from Lower and by its length.
func (r *reader) claims(count int) {
	lower, upper := r.got.Lower, r.got.Upper
	least := 0
	for range count {
		from := lower + r.number(least, upper-lower-1)
		to := from + r.number(1, upper-from)
		r.got.Claims = append(r.got.Claims, api.Span{From: from, To: to})
		least = to - lower + 1
	}
}

func (r *reader) reason() {
	r.got.Reason = r.octet()
	if r.got.Reason > maxReason {
		r.fail(api.ErrSegmentField)
	}
}
