// Package nest is layer 1: it places nests of mother insects on the pads of a grove (see shared/doc/01-nest.md).
package nest

import (
	"slices"

	"nochez/api"
	"nochez/lists"
)

// None is written in a layout for a pad without a nest.
const None = -1

// Range has all whole numbers from Lo to Hi.
type Range struct{ Lo, Hi int }

// Pad is a pad that needs some young, and has room for some.
type Pad struct{ Need, Room int }

// Join names two pads that are neighbours of each other.
type Join struct{ A, B int }

// Kind is a kind of nests: how many young there are, and how many of them go to a nest's own pad and to each neighbour.
type Kind struct {
	Young     int
	Own, Near Range
}

// Grove has pads, the joins between them, and the kinds of nests that can be placed on them.
type Grove struct {
	Pads  []Pad
	Joins []Join
	Kinds []Kind
}

// CheckGrove returns the error of the grove, or OK.
func CheckGrove(g Grove) api.Errno { return g.check() }

// Fits returns, for each pad, for each kind whether it fits there.
func Fits(g Grove) ([][]bool, api.Errno) {
	s, e := open(g)
	if e != api.OK {
		return nil, e
	}
	fits := make([][]bool, len(s.Pads))
	for pad := range s.Pads {
		for kind := range s.Kinds {
			fits[pad] = append(fits[pad], s.nests[pad][kind].fits())
		}
	}
	return fits, api.OK
}

// Bounds returns the bounds of all pads.
func Bounds(g Grove, layout []int) ([]Range, api.Errno) {
	s, l, e := openLaid(g, layout)
	if e != api.OK {
		return nil, e
	}
	b := s.bounds(l)
	return slices.Clone(b[:len(s.Pads)]), api.OK
}

// Faults returns the pads that can be missed, and those that can be overfull, both in increasing order.
func Faults(g Grove, layout []int) (missed, overfull []int, e api.Errno) {
	s, l, e := openLaid(g, layout)
	if e != api.OK {
		return nil, nil, e
	}
	b := s.bounds(l)
	for pad := range s.Pads {
		if s.missed(b, pad) {
			missed = append(missed, pad)
		}
		if s.overfull(b, pad) {
			overfull = append(overfull, pad)
		}
	}
	return missed, overfull, api.OK
}

// Worst returns a spread of the layout in which the young of the pad are at an end of its bounds.
func Worst(g Grove, layout []int, pad int, high bool) ([][]int, api.Errno) {
	s, l, e := openLaid(g, layout)
	if e != api.OK {
		return nil, e
	}
	if !s.has(pad) {
		return nil, api.ErrRange
	}
	to := Range.low
	if high {
		to = Range.high
	}
	spread := make([][]int, len(s.Pads))
	for p, n := range s.placed(l) {
		numbers := n.spreadWith(pad, to(n.bounds[pad]))
		spread[p] = slices.Clone(numbers[:len(s.Pads)])
	}
	return spread, api.OK
}

// Show returns a good spread of the layout.
func Show(g Grove, layout []int) ([][]int, api.Errno) {
	s, l, e := openLaid(g, layout)
	if e != api.OK {
		return nil, e
	}
	spread, found := s.goodSpread(l)
	if !found {
		return nil, api.ErrFail
	}
	return spread, api.OK
}

// Best returns the best layout, and the number of its nests.
func Best(g Grove) (layout []int, nests int, e api.Errno) {
	s, e := open(g)
	if e != api.OK {
		return nil, 0, e
	}
	l, found := s.best()
	if !found {
		return nil, 0, api.ErrMiss
	}
	return slices.Clone(l[:len(s.Pads)]), s.count(l), api.OK
}

// Spare returns the pads whose nest can be removed, each by itself, so that the layout is right after it, in increasing order.
func Spare(g Grove, layout []int) ([]int, api.Errno) {
	s, l, e := openLaid(g, layout)
	if e != api.OK {
		return nil, e
	}
	var spare []int
	for pad := range s.placed(l) {
		rest := l
		rest[pad] = None
		if s.right(s.bounds(rest)) {
			spare = append(spare, pad)
		}
	}
	return spare, api.OK
}

// Apart returns the proof of the grove.
func Apart(g Grove) ([]int, api.Errno) {
	s, e := open(g)
	if e != api.OK {
		return nil, e
	}
	return s.proof(), api.OK
}

// ProveLayout reports whether grove and layout are valid, and the layout is right and has at most so many nests.
func ProveLayout(g Grove, layout []int, nests int) bool {
	s, l, e := openLaid(g, layout)
	return e == api.OK && s.right(s.bounds(l)) && s.count(l) <= nests
}

// ProveSpread reports whether grove and layout are valid, and the lists are a good spread of the layout.
func ProveSpread(g Grove, layout []int, spread [][]int) bool {
	s, l, e := openLaid(g, layout)
	return e == api.OK && s.spreads(l, spread) && s.good(spread)
}

// ProveApart reports whether the grove is valid, the list increases, and its pads are apart.
func ProveApart(g Grove, pads []int) bool {
	s, e := open(g)
	return e == api.OK && lists.Each(pads, s.has) && lists.Rises(pads) && s.apart(pads)
}
