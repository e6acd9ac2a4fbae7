package dye

import (
	"iter"
)

// pair is two lots, or a lot and water.
type pair struct{ from, to int }

// edge leads from a lot, or water, to another one, which is at most so much stronger, or weaker, depending on the end; a reading says so.
type edge struct {
	pair
	most, reading int
}

// end is one of the two ends of what is known: the upper one tells how much stronger a lot is at most, the lower one how much weaker.
type end struct {
	known func(Range) int
	// says tells this of the lot of a reading, compared with the other one, and back of the other one, compared with the lot.
	says, back func(Reading) int
}

func endOf(high bool) end {
	if high {
		return end{known: Range.above, says: Reading.above, back: Reading.below}
	}
	return end{known: Range.below, says: Reading.below, back: Reading.above}
}

// edges yields the two edges of each reading of valid works, in the order of the readings.
func (w Works) edges(x end) iter.Seq[edge] {
	return func(yield func(edge) bool) {
		for i, r := range w.Readings {
			there, back := pair{r.against(), r.Lot}, pair{r.Lot, r.against()}
			if !yield(edge{there, x.says(r), i}) || !yield(edge{back, x.back(r), i}) {
				return
			}
		}
	}
}

// find returns the first edge for which a condition holds.
func (w Works) find(x end, holds func(edge) bool) (edge, bool) {
	for e := range w.edges(x) {
		if holds(e) {
			return e, true
		}
	}
	return edge{}, false
}
