package sieve

import (
	"slices"

	"nochez/api"
	"nochez/lists"
)

// assay is a lot at work.
type assay struct {
	Lot
	possible [][]int // all possible mixtures, in lexicographic order
}

// open returns a valid lot as a lot at work, or its error.
func open(l Lot) (*assay, api.Errno) {
	if e := l.check(); e != api.OK {
		return nil, e
	}
	s := &assay{Lot: l}
	for m := range s.mixtures() {
		if s.canBe(m) {
			s.possible = append(s.possible, m)
		}
	}
	return s, api.OK
}

// openLimited returns a consistent lot at work to which limits and a set of tests belong, or their error.
func openLimited(l Lot, limits, tests []int) (*assay, api.Errno) {
	s, e := open(l)
	switch {
	case e != api.OK:
		return nil, e
	case !s.canLimit(limits), !s.canChoose(tests):
		return nil, api.ErrRange
	case !s.consistent():
		return nil, api.ErrFail
	}
	return s, api.OK
}

func (s *assay) consistent() bool { return len(s.possible) > 0 }

// rangeOf returns the range of a thing of a consistent lot.
func (s *assay) rangeOf(thing int) Range {
	var amounts []int
	for _, m := range s.possible {
		amounts = append(amounts, m[thing])
	}
	return Range{Lo: lists.Least(amounts[0], amounts...), Hi: lists.Most(amounts[0], amounts...)}
}

// ranges returns the ranges of all things of a consistent lot.
func (s *assay) ranges() []Range {
	var ranges []Range
	for thing := range s.Things {
		ranges = append(ranges, s.rangeOf(thing))
	}
	return ranges
}

// side is one of the two sides of ranges.
type side struct{ end func(Range) int }

func sideOf(high bool) side {
	if high {
		return side{end: Range.high}
	}
	return side{end: Range.low}
}

// show returns the first possible mixture of a consistent lot in which a thing is at an end of its range.
func (s *assay) show(thing int, x side) []int {
	end := x.end(s.rangeOf(thing))
	first := slices.IndexFunc(s.possible, func(m []int) bool { return m[thing] == end })
	return s.possible[first]
}

// over returns the things of which a consistent lot can be beyond the limit, rising.
func (s *assay) over(limits []int) []int {
	var over []int
	for thing, r := range s.ranges() {
		if r.Hi > limits[thing] {
			over = append(over, thing)
		}
	}
	return over
}
