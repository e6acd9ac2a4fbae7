package prey

import (
	"slices"

	"nochez/api"
)

// weeks returns the weeks that need at most so many hands, in their order.
func (h *hunt) weeks(hands int) []set {
	var weeks []set
	for week := range set(1) << len(h.Eats) {
		if week.size() <= hands {
			weeks = append(weeks, week)
		}
	}
	slices.SortFunc(weeks, weekOrder().compare)
	return weeks
}

// step is a week of a plan: what is picked, where a moth may be after it, and the step before it. The first step is the beginning.
type step struct {
	before       *step
	picked, left set
}

// plan returns the weeks that lead to a step.
func (s *step) plan() []set {
	var plan []set
	for ; s.before != nil; s = s.before {
		plan = append(plan, s.picked)
	}
	slices.Reverse(plan)
	return plan
}

// shortest returns the shortest plan for so many hands, if there is one.
func (h *hunt) shortest(hands int) ([]set, bool) {
	begin := &step{left: setOf(h.Start...)}
	if begin.left == 0 {
		return nil, true
	}
	weeks := h.weeks(hands)
	steps := []*step{begin}
	var seen [1 << api.MaxNestPads]bool
	seen[begin.left] = true
	var last *step
	// Steps are taken in the order of the plans that lead to them, so that the first one that leaves the same pads is the one to keep.
search:
	for i := 0; i < len(steps); i++ {
		reached := h.reached(steps[i].left)
		for _, week := range weeks {
			left := reached.without(week)
			if seen[left] {
				continue
			}
			seen[left] = true
			steps = append(steps, &step{before: steps[i], picked: week, left: left})
			if left == 0 {
				last = steps[len(steps)-1]
				break search
			}
		}
	}
	if last == nil {
		return nil, false
	}
	return last.plan(), true
}

// fewestHands returns the smallest number of hands for which there is a plan that clears the field.
func (h *hunt) fewestHands() int {
	pads := len(h.Eats)
	for hands := range pads {
		if _, found := h.shortest(hands); found {
			return hands
		}
	}
	// All pads can be picked at once.
	return pads
}
