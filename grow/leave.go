package grow

import "nochez/lists"

// smallestSet returns the smallest set of observations that can be left out. There is one, since all of them together can be left out.
func (r *rearing) smallestSet(seen []Seen) []int {
	var set []int
search:
	for size := range len(seen) + 1 {
		for out := range lists.Choices(len(seen), size) {
			if r.possible(lists.Without(seen, out)) {
				set = out
				break search
			}
		}
	}
	return set
}
