package grow

import "nochez/lists"

// smallestSet returns the smallest set of observations that can be left out. There is one, since all of them together can be left out.
func (r *rearing) smallestSet(seen []Seen) []int {
	return lists.Smallest(len(seen), func(out []int) bool { return r.possible(lists.Without(seen, out)) })
}
