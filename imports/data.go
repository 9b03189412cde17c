package imports

import (
	"lantern/api"
	"lantern/claims"
)

// data is a data segment, as an import looks at it.
type data interface {
	wrong(m *Import) bool          // it cannot be of one block with what came
	verdict(m *Import) api.Verdict // of one that is not wrong
}

// dataOf is a segment that may be, as data.
func dataOf(x api.Segment) (data, api.Errno) {
	switch x.Type {
	case api.RedPlain, api.RedCheck, api.RedEnd, api.RedLast:
		return red{part{x}}, api.OK
	case api.GreenPlain, api.GreenLast:
		return green{part{x}}, api.OK
	}
	return nil, api.ErrArg
}

// part is what data of both colours have.
type part struct{ api.Segment }

// red is data of the red part.
type red struct{ part }

// green is data of the green part.
type green struct{ part }

// end is the place behind the last byte.
func (x part) end() int { return x.Offset + len(x.Data) }

// endsBlock tells whether the block ends with it.
func (x part) endsBlock() bool { return x.Type == api.RedLast || x.Type == api.GreenLast }

// endsRed tells whether the red part ends with it.
func (x red) endsRed() bool { return x.Type == api.RedEnd || x.Type == api.RedLast }

// wrongEnd tells whether it goes beyond the block's end, or ends the block where that cannot be.
func (x part) wrongEnd(m *Import) bool {
	end := x.end()
	if m.size > 0 && end > m.size {
		return true
	}
	return x.endsBlock() && (end < m.size || end < m.green.To)
}

func (x red) wrong(m *Import) bool {
	end := x.end()
	switch {
	case m.red > 0 && end > m.red:
		return true
	case x.endsRed() && (end < m.red || end < m.last()):
		return true
	case m.green.To > 0 && end > m.green.From:
		return true
	}
	return x.wrongEnd(m)
}

func (x green) wrong(m *Import) bool {
	return x.Offset < m.red || x.Offset < m.last() || x.wrongEnd(m)
}

// size is the block's length, as it is known behind it.
func (x part) size(m *Import) int {
	if x.endsBlock() {
		return x.end()
	}
	return m.size
}

func (x red) verdict(m *Import) api.Verdict {
	fresh, clash, fault := m.buffer.Look(x.Offset, x.Data)
	if fault != api.OK {
		return api.Verdict{Big: true} // there is no other fault in a segment that may be
	}
	if fresh == 0 && x.oneTooMany(m) {
		return api.Verdict{Cycle: true}
	}
	v := api.Verdict{Fresh: fresh, Clash: clash, Red: m.red, Size: x.size(m)}
	if x.endsRed() {
		v.Red = x.end()
	}
	v.Whole = !m.Whole() && x.completes(m, v.Red)
	return v
}

// oneTooMany tells whether it is a checkpoint which, if it brings nothing, is answered no more.
func (x red) oneTooMany(m *Import) bool {
	_, answered := m.answered[x.Check]
	return x.Check != 0 && !answered && !m.fresh && m.vain >= m.rules.Cycles
}

// completes tells whether with its bytes all of a red part of that length came.
func (x red) completes(m *Import, length int) bool {
	have, _, _ := claims.Add(m.buffer.Have(), api.Span{From: x.Offset, To: x.end()}) // the buffer looked at the same, and refused nothing
	return covers(have, length)
}

func (x green) verdict(m *Import) api.Verdict {
	return api.Verdict{Red: m.red, Size: x.size(m)}
}
