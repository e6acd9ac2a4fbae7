package prey

import (
	"cmp"
	"slices"

	"nochez/lists"
)

// spot is a pad at the beginning of a week.
type spot struct{ week, pad int }

// losses has, for each spot, the most that a moth which is there can eat from then on.
type losses map[spot]int

// losses returns the losses of a plan; those after its last week are 0.
func (h *hunt) losses(plan []set) losses {
	l := losses{}
	for week, picked := range slices.Backward(plan) {
		for pad, eats := range h.Eats {
			later := 0
			for next := range h.next(setOf(pad)) {
				if !picked.has(next) {
					later = lists.Most(later, l[spot{week + 1, next}])
				}
			}
			l[spot{week, pad}] = eats + later
		}
	}
	return l
}

// eaten returns the loss of a path.
func (h *hunt) eaten(path []int) int {
	loss := 0
	for _, pad := range path {
		loss += h.Eats[pad]
	}
	return loss
}

// worstPath returns a path for the plan that has its worst loss.
func (h *hunt) worstPath(plan []set) []int {
	l := h.losses(plan)
	var path []int
	may := setOf(h.Start...)
	for week, picked := range plan {
		if may == 0 {
			break
		}
		pad := slices.MaxFunc(may.pads(), func(a, b int) int {
			return cmp.Compare(l[spot{week, a}], l[spot{week, b}])
		})
		path = append(path, pad)
		may = h.reached(setOf(pad)).without(picked)
	}
	return path
}

// isPath reports whether a list is a path for the plan.
func (h *hunt) isPath(plan []set, path []int) bool {
	if len(path) > len(plan) {
		return false
	}
	may, found := setOf(h.Start...), false
	for week, pad := range path {
		if !h.has(pad) || !may.has(pad) {
			return false
		}
		reached := h.reached(setOf(pad))
		may, found = reached.without(plan[week]), reached.meets(plan[week])
	}
	return len(path) == len(plan) || found
}
