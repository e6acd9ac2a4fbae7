package crop

import "slices"

// best returns the lists that, from a stand on, are those of the best plan, and its worst harvest.
func (c *campaign) best(from stand) (Plan, int) {
	var best Plan
	harvest := -1 // less than any plan has
	seen := map[morning][]harvests{}
	var extend func(begun Plan, at stand)
	extend = func(begun Plan, at stand) {
		if at.day == c.Days {
			if worst := c.worst(at.harvests); worst > harvest {
				best, harvest = slices.Clone(begun), worst
			}
			return
		}
	search:
		for list := range c.picks() {
			left := c.pick(at.amounts, list)
			if left == at.amounts && len(list) > 0 {
				continue // The empty list, which is smaller, takes nothing either.
			}
			next := c.rest(at, left)
			for _, earlier := range seen[next.morning] {
				// Lists are tried in their order, so that what has been seen belongs to a smaller plan.
				if earlier.covers(next.harvests) {
					continue search
				}
			}
			seen[next.morning] = append(seen[next.morning], next.harvests)
			extend(append(begun, list), next)
		}
	}
	extend(nil, from)
	return best, harvest
}
