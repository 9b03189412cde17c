package export

import (
	"lantern/api"
	"lantern/blocks"
)

// source is what an export's segments are made of.
type source struct {
	session api.Session
	parcel  api.Parcel
	bytes   []byte // of the block, from 0 on
}

// segment is that of a piece.
func (s source) segment(x api.Piece) api.Segment {
	made, _ := blocks.Make(s.session, s.parcel, x, s.bytes) // the piece was cut by this parcel, and has its bytes there
	return made
}

// checkpoint is one that is open.
type checkpoint struct {
	piece api.Piece
	waits bool
	again int // how often it was sent again
}

// put is what becomes of pieces that are put on, each by the function; their checkpoints are open from now on.
func (e *Export) put(pieces []api.Piece, segment func(api.Piece) api.Segment) []api.Segment {
	l := make([]api.Segment, 0, len(pieces))
	for _, x := range pieces {
		if x.Check > 0 {
			e.check = x.Check
			e.open[x.Check] = &checkpoint{piece: x, waits: true}
		}
		l = append(l, segment(x))
	}
	return l
}
