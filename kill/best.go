package kill

import (
	"iter"
	"slices"
)

// isSparing reports whether a lot that goes by a list would not be right if it were in one place less.
func (s *shift) isSparing(lot int, list []int) bool {
	for step, place := range list {
		if place == None {
			continue
		}
		less := slices.Clone(list)
		less[step] = None
		if s.isRight(lot, less) {
			return false
		}
	}
	return true
}

// plans yields the sparing plans of a lot by which it is right, from the smallest one on, each in memory of its own.
func (s *shift) plans(lot int) iter.Seq[[]int] {
	return func(yield func([]int) bool) {
		var extend func(begun []int, at passage) bool
		extend = func(begun []int, at passage) bool {
			if s.needs(at) >= never {
				return true
			}
			if at.step == s.Steps {
				return !s.isSparing(lot, begun) || yield(slices.Clone(begun))
			}
			for place := None; place < len(s.Places); place++ {
				if !extend(append(begun, place), s.next(at, place)) {
					return false
				}
			}
			return true
		}
		extend(nil, s.begin(lot))
	}
}

// best returns the best plan, and its work, or never if there is none. It has sparing plans of lots only: with one place less there would be less work, and no less room.
func (s *shift) best() (Plan, int) {
	var best Plan
	least := never
	plans, needs := make([][][]int, len(s.Lots)), make([]int, len(s.Lots))
	needed := 0
	for lot := range s.Lots {
		plans[lot], needs[lot] = slices.Collect(s.plans(lot)), s.needs(s.begin(lot))
		needed += needs[lot]
	}
	// The work of a plan that is begun is at least that of its lists, and what the other lots need.
	var extend func(begun Plan, taken crowd, work int)
	extend = func(begun Plan, taken crowd, work int) {
		lot := len(begun)
		if lot == len(s.Lots) {
			best, least = slices.Clone(begun), work
			return
		}
		for _, list := range plans[lot] {
			more, next := work-needs[lot]+workOf(list), taken.with(list)
			if more < least && s.holds(next) {
				extend(append(begun, list), next, more)
			}
		}
	}
	extend(nil, crowd{}, needed)
	return best, least
}
