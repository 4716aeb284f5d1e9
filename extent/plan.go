package extent

import (
	"cmp"
	"slices"

	"strongroom/api"
)

// Move is an extent that goes elsewhere.
type Move struct {
	From, To, Size int
}

// Plan tells how extents are moved together.
func (a *Area) Plan(l []api.Span) ([]Move, api.Errno) {
	if a == nil {
		return nil, api.ErrArg
	}
	for _, s := range l {
		if !a.has(s) {
			return nil, api.ErrRange
		}
	}
	l = slices.Clone(l)
	slices.SortFunc(l, func(s, x api.Span) int { return cmp.Compare(s.From, x.From) })
	behind := 0
	for _, s := range l {
		if s.From < behind || !a.isTaken(s) {
			return nil, api.ErrState
		}
		behind = end(s)
	}
	return moves(l), api.OK
}

// moves are the moves of extents by rising From. None goes up, and none passes another one, so none is laid over what is still to be moved.
func moves(l []api.Span) []Move {
	var out []Move
	to := 0
	for _, s := range l {
		if s.From != to {
			out = append(out, Move{From: s.From, To: to, Size: s.Size})
		}
		to += s.Size
	}
	return out
}
