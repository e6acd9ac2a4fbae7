package prey

import (
	"slices"

	"nochez/api"
)

// best returns the best plan for so many hands and weeks, and its worst loss.
func (h *hunt) best(hands, weeks int) ([]set, int) {
	var plan []set
	loss := weeks*api.MaxPreyEats + 1 // more than any plan has
	choices := h.weeks(hands)
	var search func(begun []set)
	search = func(begun []set) {
		if len(begun) == weeks {
			if worst := h.eaten(h.worstPath(begun)); worst < loss {
				plan, loss = slices.Clone(begun), worst
			}
			return
		}
		picks := choices
		if len(begun) == weeks-1 {
			// What is picked in the last week saves nothing, since the moths have eaten before; so it is the first choice, no pads.
			picks = choices[:1]
		}
		for _, week := range picks {
			search(append(begun, week))
		}
	}
	search(nil)
	return plan, loss
}
